/-
  NARROWER THAN 'FOR EVERY INPUT', by the rows' own cells (each row's printed sentence says how): FnExactColumnsTaken: laid · FnExactColumnsMade: laid · FnExactMirrorStitch: laid · FnExactSymbolOf: laid · FnExactTakenBy: laid · FnExactMadeBy: laid · FnExactStacksAfter: laid · FnExactValidChart: laid · FnExactStacksOf: laid · FnExactColumnsAfter: laid.
  DERIVED. THE GIVEN ROWS OF THIS SEAT. 10 by the template 'for every input the law returns true; each argument reads behind the call as it read before'; 0 by the template 'total and deterministic' (their statements: YtglkchcfggclaaaDoorTotals.lean).
  GIVEN WITH THE SEED: the statements are not yours to turn. If you find one false, say at which input.
  Laid BY PROGRAM, IN A SANDBOX (cutbox-rows.mjs): the forced cells as the released guide's own fill.sh prints them over the translation 93e3bcd32949652b… (all of the seat's roots in one cut). By AI agents, Wed Nov 11 2026. No macro, syntax, notation, axiom, sorry.
-/
import Derived.Test.YtglkchcfggclaaaDoorChecked
import GoSem.Claim
import GoSem.ClaimJoined
import GoSem.ClaimMapViews
import Derived.JoinedTies
import Derived.KernelRfl
namespace Go.Proofs.YtglkchcfggclaaaDoor
/- THE CELL 'sum', in the pinned program and in every row, IS THE sha256 OF THE DUMP (.gsa) THAT YtglkchcfggclaaaDoorProg.lean LOADS. Nothing in Lean hashes anything: it is a label: what it is worth is what the hold of that sum in a sandbox is worth. -/
noncomputable def Tryd.pinned : Pinned := { name := "ytglkchcfggclaaadoor", sum := "93e3bcd32949652b8ab94b939709776711ce7e304d93bcedd351413d13dc44b5", checked := Tryd.checked }
namespace Rows
def none {H : Type} : Left H := { results := [], args := [] }

/- WHAT THE LISTED PACKAGE-LEVEL VARIABLES READ AS WHEN THE CALL BEGINS. Each datum BY PROGRAM (the guide's laid-datum.mjs) off the statement by which the dump's own 'gosem.cut.vars' lays the variable. In a bare row this is a premise. The card (YtglkchcfggclaaaDoorCards.lean) ties it to the program's text. -/
def laid_loop_example_g00856_impl_stitches {H : Type} : DataW H := .agg [.agg [.lit (.int .i32 0), .lit (.int .i64 0), .lit (.int .i64 0), .lit (.int .i64 0)], .agg [.lit (.int .i32 107), .lit (.int .i64 1), .lit (.int .i64 1), .lit (.int .i64 1)], .agg [.lit (.int .i32 112), .lit (.int .i64 1), .lit (.int .i64 1), .lit (.int .i64 2)], .agg [.lit (.int .i32 111), .lit (.int .i64 0), .lit (.int .i64 1), .lit (.int .i64 3)], .agg [.lit (.int .i32 100), .lit (.int .i64 2), .lit (.int .i64 1), .lit (.int .i64 5)], .agg [.lit (.int .i32 101), .lit (.int .i64 2), .lit (.int .i64 1), .lit (.int .i64 4)], .agg [.lit (.int .i32 116), .lit (.int .i64 1), .lit (.int .i64 1), .lit (.int .i64 6)], .agg [.lit (.int .i32 115), .lit (.int .i64 1), .lit (.int .i64 1), .lit (.int .i64 7)], .agg [.lit (.int .i32 120), .lit (.int .i64 2), .lit (.int .i64 2), .lit (.int .i64 9)], .agg [.lit (.int .i32 121), .lit (.int .i64 2), .lit (.int .i64 2), .lit (.int .i64 8)], .agg [.lit (.int .i32 88), .lit (.int .i64 4), .lit (.int .i64 4), .lit (.int .i64 11)], .agg [.lit (.int .i32 89), .lit (.int .i64 4), .lit (.int .i64 4), .lit (.int .i64 10)]]

/-- 'laws.FnExactColumnsTaken': WHATEVER THE INPUT: true; the input reads as it did. -/
def fnExactColumnsTakenSpec : ChangeSpec := { name := "fnExactColumnsTaken", vars := ["loop.example/g00856/impl.stitches"], fn := fun _ => fun
  | [d, g1] => { results := [.lit (.bool true)], args := [d], vars := [g1] }
  | _ => none }
def fnExactColumnsTakenRow : OpenClaim := { program := "ytglkchcfggclaaadoor", sum := "93e3bcd32949652b8ab94b939709776711ce7e304d93bcedd351413d13dc44b5", func := "loop.example/g00856/laws.FnExactColumnsTaken", spec := "fnExactColumnsTaken", named := ["loop.example/g00856/impl.stitches"], apart := false, laid := [("loop.example/g00856/impl.stitches", laid_loop_example_g00856_impl_stitches)] }
def FnExactColumnsTakenSaid : Prop := fnExactColumnsTakenRow.holds Tryd.pinned (OpenSpec.ofChange fnExactColumnsTakenSpec)

/-- ITS FALSE NEIGHBOUR: 'it returns false'. Refute it at one input. -/
def fnExactColumnsTakenWrong : ChangeSpec := { name := "fnExactColumnsTaken", vars := ["loop.example/g00856/impl.stitches"], fn := fun _ => fun
  | [d, g1] => { results := [.lit (.bool false)], args := [d], vars := [g1] }
  | _ => none }
def FnExactColumnsTakenWrongFalsely : Prop := fnExactColumnsTakenRow.holds Tryd.pinned (OpenSpec.ofChange fnExactColumnsTakenWrong)

/-- 'laws.FnExactColumnsMade': WHATEVER THE INPUT: true; the input reads as it did. -/
def fnExactColumnsMadeSpec : ChangeSpec := { name := "fnExactColumnsMade", vars := ["loop.example/g00856/impl.stitches"], fn := fun _ => fun
  | [d, g1] => { results := [.lit (.bool true)], args := [d], vars := [g1] }
  | _ => none }
def fnExactColumnsMadeRow : OpenClaim := { program := "ytglkchcfggclaaadoor", sum := "93e3bcd32949652b8ab94b939709776711ce7e304d93bcedd351413d13dc44b5", func := "loop.example/g00856/laws.FnExactColumnsMade", spec := "fnExactColumnsMade", named := ["loop.example/g00856/impl.stitches"], apart := false, laid := [("loop.example/g00856/impl.stitches", laid_loop_example_g00856_impl_stitches)] }
def FnExactColumnsMadeSaid : Prop := fnExactColumnsMadeRow.holds Tryd.pinned (OpenSpec.ofChange fnExactColumnsMadeSpec)

/-- ITS FALSE NEIGHBOUR: 'it returns false'. Refute it at one input. -/
def fnExactColumnsMadeWrong : ChangeSpec := { name := "fnExactColumnsMade", vars := ["loop.example/g00856/impl.stitches"], fn := fun _ => fun
  | [d, g1] => { results := [.lit (.bool false)], args := [d], vars := [g1] }
  | _ => none }
def FnExactColumnsMadeWrongFalsely : Prop := fnExactColumnsMadeRow.holds Tryd.pinned (OpenSpec.ofChange fnExactColumnsMadeWrong)

/-- 'laws.FnExactMirrorStitch': WHATEVER THE INPUT: true; the input reads as it did. -/
def fnExactMirrorStitchSpec : ChangeSpec := { name := "fnExactMirrorStitch", vars := ["loop.example/g00856/impl.stitches"], fn := fun _ => fun
  | [d, g1] => { results := [.lit (.bool true)], args := [d], vars := [g1] }
  | _ => none }
def fnExactMirrorStitchRow : OpenClaim := { program := "ytglkchcfggclaaadoor", sum := "93e3bcd32949652b8ab94b939709776711ce7e304d93bcedd351413d13dc44b5", func := "loop.example/g00856/laws.FnExactMirrorStitch", spec := "fnExactMirrorStitch", named := ["loop.example/g00856/impl.stitches"], apart := false, laid := [("loop.example/g00856/impl.stitches", laid_loop_example_g00856_impl_stitches)] }
def FnExactMirrorStitchSaid : Prop := fnExactMirrorStitchRow.holds Tryd.pinned (OpenSpec.ofChange fnExactMirrorStitchSpec)

/-- ITS FALSE NEIGHBOUR: 'it returns false'. Refute it at one input. -/
def fnExactMirrorStitchWrong : ChangeSpec := { name := "fnExactMirrorStitch", vars := ["loop.example/g00856/impl.stitches"], fn := fun _ => fun
  | [d, g1] => { results := [.lit (.bool false)], args := [d], vars := [g1] }
  | _ => none }
def FnExactMirrorStitchWrongFalsely : Prop := fnExactMirrorStitchRow.holds Tryd.pinned (OpenSpec.ofChange fnExactMirrorStitchWrong)

/-- 'laws.FnExactSymbolOf': WHATEVER THE INPUT: true; the input reads as it did. -/
def fnExactSymbolOfSpec : ChangeSpec := { name := "fnExactSymbolOf", vars := ["loop.example/g00856/impl.stitches"], fn := fun _ => fun
  | [d, g1] => { results := [.lit (.bool true)], args := [d], vars := [g1] }
  | _ => none }
def fnExactSymbolOfRow : OpenClaim := { program := "ytglkchcfggclaaadoor", sum := "93e3bcd32949652b8ab94b939709776711ce7e304d93bcedd351413d13dc44b5", func := "loop.example/g00856/laws.FnExactSymbolOf", spec := "fnExactSymbolOf", named := ["loop.example/g00856/impl.stitches"], apart := false, laid := [("loop.example/g00856/impl.stitches", laid_loop_example_g00856_impl_stitches)] }
def FnExactSymbolOfSaid : Prop := fnExactSymbolOfRow.holds Tryd.pinned (OpenSpec.ofChange fnExactSymbolOfSpec)

/-- ITS FALSE NEIGHBOUR: 'it returns false'. Refute it at one input. -/
def fnExactSymbolOfWrong : ChangeSpec := { name := "fnExactSymbolOf", vars := ["loop.example/g00856/impl.stitches"], fn := fun _ => fun
  | [d, g1] => { results := [.lit (.bool false)], args := [d], vars := [g1] }
  | _ => none }
def FnExactSymbolOfWrongFalsely : Prop := fnExactSymbolOfRow.holds Tryd.pinned (OpenSpec.ofChange fnExactSymbolOfWrong)

/-- 'laws.FnExactTakenBy': WHATEVER THE INPUT: true; the input reads as it did. -/
def fnExactTakenBySpec : ChangeSpec := { name := "fnExactTakenBy", vars := ["loop.example/g00856/impl.stitches"], fn := fun _ => fun
  | [d, g1] => { results := [.lit (.bool true)], args := [d], vars := [g1] }
  | _ => none }
def fnExactTakenByRow : OpenClaim := { program := "ytglkchcfggclaaadoor", sum := "93e3bcd32949652b8ab94b939709776711ce7e304d93bcedd351413d13dc44b5", func := "loop.example/g00856/laws.FnExactTakenBy", spec := "fnExactTakenBy", unfollowed := true, recurses := true, named := ["loop.example/g00856/impl.stitches"], apart := false, laid := [("loop.example/g00856/impl.stitches", laid_loop_example_g00856_impl_stitches)] }
def FnExactTakenBySaid : Prop := fnExactTakenByRow.holds Tryd.pinned (OpenSpec.ofChange fnExactTakenBySpec)

/-- ITS FALSE NEIGHBOUR: 'it returns false'. Refute it at one input. -/
def fnExactTakenByWrong : ChangeSpec := { name := "fnExactTakenBy", vars := ["loop.example/g00856/impl.stitches"], fn := fun _ => fun
  | [d, g1] => { results := [.lit (.bool false)], args := [d], vars := [g1] }
  | _ => none }
def FnExactTakenByWrongFalsely : Prop := fnExactTakenByRow.holds Tryd.pinned (OpenSpec.ofChange fnExactTakenByWrong)

/-- 'laws.FnExactMadeBy': WHATEVER THE INPUT: true; the input reads as it did. -/
def fnExactMadeBySpec : ChangeSpec := { name := "fnExactMadeBy", vars := ["loop.example/g00856/impl.stitches"], fn := fun _ => fun
  | [d, g1] => { results := [.lit (.bool true)], args := [d], vars := [g1] }
  | _ => none }
def fnExactMadeByRow : OpenClaim := { program := "ytglkchcfggclaaadoor", sum := "93e3bcd32949652b8ab94b939709776711ce7e304d93bcedd351413d13dc44b5", func := "loop.example/g00856/laws.FnExactMadeBy", spec := "fnExactMadeBy", unfollowed := true, recurses := true, named := ["loop.example/g00856/impl.stitches"], apart := false, laid := [("loop.example/g00856/impl.stitches", laid_loop_example_g00856_impl_stitches)] }
def FnExactMadeBySaid : Prop := fnExactMadeByRow.holds Tryd.pinned (OpenSpec.ofChange fnExactMadeBySpec)

/-- ITS FALSE NEIGHBOUR: 'it returns false'. Refute it at one input. -/
def fnExactMadeByWrong : ChangeSpec := { name := "fnExactMadeBy", vars := ["loop.example/g00856/impl.stitches"], fn := fun _ => fun
  | [d, g1] => { results := [.lit (.bool false)], args := [d], vars := [g1] }
  | _ => none }
def FnExactMadeByWrongFalsely : Prop := fnExactMadeByRow.holds Tryd.pinned (OpenSpec.ofChange fnExactMadeByWrong)

/-- 'laws.FnExactStacksAfter': WHATEVER THE INPUT: true; the input reads as it did. -/
def fnExactStacksAfterSpec : ChangeSpec := { name := "fnExactStacksAfter", vars := ["loop.example/g00856/impl.stitches"], fn := fun _ => fun
  | [d1, d2, g1] => { results := [.lit (.bool true)], args := [d1, d2], vars := [g1] }
  | _ => none }
def fnExactStacksAfterRow : OpenClaim := { program := "ytglkchcfggclaaadoor", sum := "93e3bcd32949652b8ab94b939709776711ce7e304d93bcedd351413d13dc44b5", func := "loop.example/g00856/laws.FnExactStacksAfter", spec := "fnExactStacksAfter", unfollowed := true, recurses := true, named := ["loop.example/g00856/impl.stitches"], apart := false, laid := [("loop.example/g00856/impl.stitches", laid_loop_example_g00856_impl_stitches)] }
def FnExactStacksAfterSaid : Prop := fnExactStacksAfterRow.holds Tryd.pinned (OpenSpec.ofChange fnExactStacksAfterSpec)

/-- ITS FALSE NEIGHBOUR: 'it returns false'. Refute it at one input. -/
def fnExactStacksAfterWrong : ChangeSpec := { name := "fnExactStacksAfter", vars := ["loop.example/g00856/impl.stitches"], fn := fun _ => fun
  | [d1, d2, g1] => { results := [.lit (.bool false)], args := [d1, d2], vars := [g1] }
  | _ => none }
def FnExactStacksAfterWrongFalsely : Prop := fnExactStacksAfterRow.holds Tryd.pinned (OpenSpec.ofChange fnExactStacksAfterWrong)

/-- 'laws.FnExactValidChart': WHATEVER THE INPUT: true; the input reads as it did. -/
def fnExactValidChartSpec : ChangeSpec := { name := "fnExactValidChart", vars := ["loop.example/g00856/impl.stitches"], fn := fun _ => fun
  | [d, g1] => { results := [.lit (.bool true)], args := [d], vars := [g1] }
  | _ => none }
def fnExactValidChartRow : OpenClaim := { program := "ytglkchcfggclaaadoor", sum := "93e3bcd32949652b8ab94b939709776711ce7e304d93bcedd351413d13dc44b5", func := "loop.example/g00856/laws.FnExactValidChart", spec := "fnExactValidChart", unfollowed := true, recurses := true, named := ["loop.example/g00856/impl.stitches"], apart := false, laid := [("loop.example/g00856/impl.stitches", laid_loop_example_g00856_impl_stitches)] }
def FnExactValidChartSaid : Prop := fnExactValidChartRow.holds Tryd.pinned (OpenSpec.ofChange fnExactValidChartSpec)

/-- ITS FALSE NEIGHBOUR: 'it returns false'. Refute it at one input. -/
def fnExactValidChartWrong : ChangeSpec := { name := "fnExactValidChart", vars := ["loop.example/g00856/impl.stitches"], fn := fun _ => fun
  | [d, g1] => { results := [.lit (.bool false)], args := [d], vars := [g1] }
  | _ => none }
def FnExactValidChartWrongFalsely : Prop := fnExactValidChartRow.holds Tryd.pinned (OpenSpec.ofChange fnExactValidChartWrong)

/-- 'laws.FnExactStacksOf': WHATEVER THE INPUT: true; the input reads as it did. -/
def fnExactStacksOfSpec : ChangeSpec := { name := "fnExactStacksOf", vars := ["loop.example/g00856/impl.stitches"], fn := fun _ => fun
  | [d, g1] => { results := [.lit (.bool true)], args := [d], vars := [g1] }
  | _ => none }
def fnExactStacksOfRow : OpenClaim := { program := "ytglkchcfggclaaadoor", sum := "93e3bcd32949652b8ab94b939709776711ce7e304d93bcedd351413d13dc44b5", func := "loop.example/g00856/laws.FnExactStacksOf", spec := "fnExactStacksOf", unfollowed := true, recurses := true, named := ["loop.example/g00856/impl.stitches"], apart := false, laid := [("loop.example/g00856/impl.stitches", laid_loop_example_g00856_impl_stitches)] }
def FnExactStacksOfSaid : Prop := fnExactStacksOfRow.holds Tryd.pinned (OpenSpec.ofChange fnExactStacksOfSpec)

/-- ITS FALSE NEIGHBOUR: 'it returns false'. Refute it at one input. -/
def fnExactStacksOfWrong : ChangeSpec := { name := "fnExactStacksOf", vars := ["loop.example/g00856/impl.stitches"], fn := fun _ => fun
  | [d, g1] => { results := [.lit (.bool false)], args := [d], vars := [g1] }
  | _ => none }
def FnExactStacksOfWrongFalsely : Prop := fnExactStacksOfRow.holds Tryd.pinned (OpenSpec.ofChange fnExactStacksOfWrong)

/-- 'laws.FnExactColumnsAfter': WHATEVER THE INPUT: true; the input reads as it did. -/
def fnExactColumnsAfterSpec : ChangeSpec := { name := "fnExactColumnsAfter", vars := ["loop.example/g00856/impl.stitches"], fn := fun _ => fun
  | [d, g1] => { results := [.lit (.bool true)], args := [d], vars := [g1] }
  | _ => none }
def fnExactColumnsAfterRow : OpenClaim := { program := "ytglkchcfggclaaadoor", sum := "93e3bcd32949652b8ab94b939709776711ce7e304d93bcedd351413d13dc44b5", func := "loop.example/g00856/laws.FnExactColumnsAfter", spec := "fnExactColumnsAfter", unfollowed := true, recurses := true, named := ["loop.example/g00856/impl.stitches"], apart := false, laid := [("loop.example/g00856/impl.stitches", laid_loop_example_g00856_impl_stitches)] }
def FnExactColumnsAfterSaid : Prop := fnExactColumnsAfterRow.holds Tryd.pinned (OpenSpec.ofChange fnExactColumnsAfterSpec)

/-- ITS FALSE NEIGHBOUR: 'it returns false'. Refute it at one input. -/
def fnExactColumnsAfterWrong : ChangeSpec := { name := "fnExactColumnsAfter", vars := ["loop.example/g00856/impl.stitches"], fn := fun _ => fun
  | [d, g1] => { results := [.lit (.bool false)], args := [d], vars := [g1] }
  | _ => none }
def FnExactColumnsAfterWrongFalsely : Prop := fnExactColumnsAfterRow.holds Tryd.pinned (OpenSpec.ofChange fnExactColumnsAfterWrong)

/- THE SECOND FORM. 'bulk': how many values and letters a reading holds, each counted each time it is reached (what is shared counts as often as it is met; a slice's spare places count too). A statement '..UptoSaid' is the law's where the arguments, and the package variables that the reading takes, are together of bulk at most 1048576: NARROWER than '..Said'. Prove '..Said' where nothing that the law and all that it calls make is longer than what came in: it says more and counts as full. Else prove '..UptoSaid'. A law counts once. -/
mutual
def uptoBulk {H : Type} : DataW H → Nat
  | .lit (.string bytes) => bytes.length + 1
  | .lit _ => 1
  | .nil => 1
  | .ptr d => uptoBulk d + 1
  | .slice elems spare => uptoBulkAll elems + uptoBulkAll spare + 1
  | .agg parts => uptoBulkAll parts + 1
  | .iface _ d => uptoBulk d + 1
  | .map entries => uptoBulkEntries entries + 1
  | .held _ => 1
def uptoBulkAll {H : Type} : List (DataW H) → Nat
  | [] => 0
  | d :: r => uptoBulk d + uptoBulkAll r
def uptoBulkEntries {H : Type} : List (Lit × DataW H) → Nat
  | [] => 0
  | x :: r => uptoBulkEntry x + uptoBulkEntries r
def uptoBulkEntry {H : Type} : Lit × DataW H → Nat
  | (.string bytes, d) => bytes.length + uptoBulk d + 1
  | (_, d) => uptoBulk d + 1
 end
def uptoSmall : (H : Type) → List (DataW H) → Bool := fun _ ds => decide (uptoBulkAll ds ≤ 1048576)
def OpenSpec.upto (s : _root_.Go.ChangeSpec) : _root_.Go.OpenSpec := { _root_.Go.OpenSpec.ofChange s with cond := some uptoSmall }

/-- 'laws.FnExactColumnsTaken', WHERE WHAT IT READS IS OF BULK AT MOST 1048576: true; the input reads as it did. -/
def fnExactColumnsTakenUptoRow : OpenClaim := { program := "ytglkchcfggclaaadoor", sum := "93e3bcd32949652b8ab94b939709776711ce7e304d93bcedd351413d13dc44b5", func := "loop.example/g00856/laws.FnExactColumnsTaken", spec := "fnExactColumnsTaken", named := ["loop.example/g00856/impl.stitches"], apart := false, laid := [("loop.example/g00856/impl.stitches", laid_loop_example_g00856_impl_stitches)], narrowed := true }
def FnExactColumnsTakenUptoSaid : Prop := fnExactColumnsTakenUptoRow.holds Tryd.pinned (OpenSpec.upto fnExactColumnsTakenSpec)

/-- 'laws.FnExactColumnsMade', WHERE WHAT IT READS IS OF BULK AT MOST 1048576: true; the input reads as it did. -/
def fnExactColumnsMadeUptoRow : OpenClaim := { program := "ytglkchcfggclaaadoor", sum := "93e3bcd32949652b8ab94b939709776711ce7e304d93bcedd351413d13dc44b5", func := "loop.example/g00856/laws.FnExactColumnsMade", spec := "fnExactColumnsMade", named := ["loop.example/g00856/impl.stitches"], apart := false, laid := [("loop.example/g00856/impl.stitches", laid_loop_example_g00856_impl_stitches)], narrowed := true }
def FnExactColumnsMadeUptoSaid : Prop := fnExactColumnsMadeUptoRow.holds Tryd.pinned (OpenSpec.upto fnExactColumnsMadeSpec)

/-- 'laws.FnExactMirrorStitch', WHERE WHAT IT READS IS OF BULK AT MOST 1048576: true; the input reads as it did. -/
def fnExactMirrorStitchUptoRow : OpenClaim := { program := "ytglkchcfggclaaadoor", sum := "93e3bcd32949652b8ab94b939709776711ce7e304d93bcedd351413d13dc44b5", func := "loop.example/g00856/laws.FnExactMirrorStitch", spec := "fnExactMirrorStitch", named := ["loop.example/g00856/impl.stitches"], apart := false, laid := [("loop.example/g00856/impl.stitches", laid_loop_example_g00856_impl_stitches)], narrowed := true }
def FnExactMirrorStitchUptoSaid : Prop := fnExactMirrorStitchUptoRow.holds Tryd.pinned (OpenSpec.upto fnExactMirrorStitchSpec)

/-- 'laws.FnExactSymbolOf', WHERE WHAT IT READS IS OF BULK AT MOST 1048576: true; the input reads as it did. -/
def fnExactSymbolOfUptoRow : OpenClaim := { program := "ytglkchcfggclaaadoor", sum := "93e3bcd32949652b8ab94b939709776711ce7e304d93bcedd351413d13dc44b5", func := "loop.example/g00856/laws.FnExactSymbolOf", spec := "fnExactSymbolOf", named := ["loop.example/g00856/impl.stitches"], apart := false, laid := [("loop.example/g00856/impl.stitches", laid_loop_example_g00856_impl_stitches)], narrowed := true }
def FnExactSymbolOfUptoSaid : Prop := fnExactSymbolOfUptoRow.holds Tryd.pinned (OpenSpec.upto fnExactSymbolOfSpec)

/-- 'laws.FnExactTakenBy', WHERE WHAT IT READS IS OF BULK AT MOST 1048576: true; the input reads as it did. -/
def fnExactTakenByUptoRow : OpenClaim := { program := "ytglkchcfggclaaadoor", sum := "93e3bcd32949652b8ab94b939709776711ce7e304d93bcedd351413d13dc44b5", func := "loop.example/g00856/laws.FnExactTakenBy", spec := "fnExactTakenBy", unfollowed := true, recurses := true, named := ["loop.example/g00856/impl.stitches"], apart := false, laid := [("loop.example/g00856/impl.stitches", laid_loop_example_g00856_impl_stitches)], narrowed := true }
def FnExactTakenByUptoSaid : Prop := fnExactTakenByUptoRow.holds Tryd.pinned (OpenSpec.upto fnExactTakenBySpec)

/-- 'laws.FnExactMadeBy', WHERE WHAT IT READS IS OF BULK AT MOST 1048576: true; the input reads as it did. -/
def fnExactMadeByUptoRow : OpenClaim := { program := "ytglkchcfggclaaadoor", sum := "93e3bcd32949652b8ab94b939709776711ce7e304d93bcedd351413d13dc44b5", func := "loop.example/g00856/laws.FnExactMadeBy", spec := "fnExactMadeBy", unfollowed := true, recurses := true, named := ["loop.example/g00856/impl.stitches"], apart := false, laid := [("loop.example/g00856/impl.stitches", laid_loop_example_g00856_impl_stitches)], narrowed := true }
def FnExactMadeByUptoSaid : Prop := fnExactMadeByUptoRow.holds Tryd.pinned (OpenSpec.upto fnExactMadeBySpec)

/-- 'laws.FnExactStacksAfter', WHERE WHAT IT READS IS OF BULK AT MOST 1048576: true; the input reads as it did. -/
def fnExactStacksAfterUptoRow : OpenClaim := { program := "ytglkchcfggclaaadoor", sum := "93e3bcd32949652b8ab94b939709776711ce7e304d93bcedd351413d13dc44b5", func := "loop.example/g00856/laws.FnExactStacksAfter", spec := "fnExactStacksAfter", unfollowed := true, recurses := true, named := ["loop.example/g00856/impl.stitches"], apart := false, laid := [("loop.example/g00856/impl.stitches", laid_loop_example_g00856_impl_stitches)], narrowed := true }
def FnExactStacksAfterUptoSaid : Prop := fnExactStacksAfterUptoRow.holds Tryd.pinned (OpenSpec.upto fnExactStacksAfterSpec)

/-- 'laws.FnExactValidChart', WHERE WHAT IT READS IS OF BULK AT MOST 1048576: true; the input reads as it did. -/
def fnExactValidChartUptoRow : OpenClaim := { program := "ytglkchcfggclaaadoor", sum := "93e3bcd32949652b8ab94b939709776711ce7e304d93bcedd351413d13dc44b5", func := "loop.example/g00856/laws.FnExactValidChart", spec := "fnExactValidChart", unfollowed := true, recurses := true, named := ["loop.example/g00856/impl.stitches"], apart := false, laid := [("loop.example/g00856/impl.stitches", laid_loop_example_g00856_impl_stitches)], narrowed := true }
def FnExactValidChartUptoSaid : Prop := fnExactValidChartUptoRow.holds Tryd.pinned (OpenSpec.upto fnExactValidChartSpec)

/-- 'laws.FnExactStacksOf', WHERE WHAT IT READS IS OF BULK AT MOST 1048576: true; the input reads as it did. -/
def fnExactStacksOfUptoRow : OpenClaim := { program := "ytglkchcfggclaaadoor", sum := "93e3bcd32949652b8ab94b939709776711ce7e304d93bcedd351413d13dc44b5", func := "loop.example/g00856/laws.FnExactStacksOf", spec := "fnExactStacksOf", unfollowed := true, recurses := true, named := ["loop.example/g00856/impl.stitches"], apart := false, laid := [("loop.example/g00856/impl.stitches", laid_loop_example_g00856_impl_stitches)], narrowed := true }
def FnExactStacksOfUptoSaid : Prop := fnExactStacksOfUptoRow.holds Tryd.pinned (OpenSpec.upto fnExactStacksOfSpec)

/-- 'laws.FnExactColumnsAfter', WHERE WHAT IT READS IS OF BULK AT MOST 1048576: true; the input reads as it did. -/
def fnExactColumnsAfterUptoRow : OpenClaim := { program := "ytglkchcfggclaaadoor", sum := "93e3bcd32949652b8ab94b939709776711ce7e304d93bcedd351413d13dc44b5", func := "loop.example/g00856/laws.FnExactColumnsAfter", spec := "fnExactColumnsAfter", unfollowed := true, recurses := true, named := ["loop.example/g00856/impl.stitches"], apart := false, laid := [("loop.example/g00856/impl.stitches", laid_loop_example_g00856_impl_stitches)], narrowed := true }
def FnExactColumnsAfterUptoSaid : Prop := fnExactColumnsAfterUptoRow.holds Tryd.pinned (OpenSpec.upto fnExactColumnsAfterSpec)

end Rows
end Go.Proofs.YtglkchcfggclaaaDoor
