/-
  NARROWER THAN 'FOR EVERY INPUT', by the rows' own cells (each row's printed sentence says how): FnExactLayoutWidth: laid · FnExactRowTargets: laid · FnExactRowSources: laid · FnExactRowResults: laid · FnExactNewColumns: laid.
  DERIVED. THE GIVEN ROWS OF THIS SEAT. 5 by the template 'for every input the law returns true; each argument reads behind the call as it read before'; 0 by the template 'total and deterministic' (their statements: YtbbnheiibkcgiaaDoorTotals.lean).
  GIVEN WITH THE SEED: the statements are not yours to turn. If you find one false, say at which input.
  Laid BY PROGRAM, IN A SANDBOX (cutbox-rows.mjs): the forced cells as the released guide's own fill.sh prints them over the translation 76a017ad7f6567c6… (all of the seat's roots in one cut). By AI agents, Wed Nov 11 2026. No macro, syntax, notation, axiom, sorry.
-/
import Derived.Test.YtbbnheiibkcgiaaDoorChecked
import GoSem.Claim
import GoSem.ClaimJoined
import GoSem.ClaimMapViews
import Derived.JoinedTies
import Derived.KernelRfl
namespace Go.Proofs.YtbbnheiibkcgiaaDoor
/- THE CELL 'sum', in the pinned program and in every row, IS THE sha256 OF THE DUMP (.gsa) THAT YtbbnheiibkcgiaaDoorProg.lean LOADS. Nothing in Lean hashes anything: it is a label: what it is worth is what the hold of that sum in a sandbox is worth. -/
noncomputable def Tryd.pinned : Pinned := { name := "ytbbnheiibkcgiaadoor", sum := "76a017ad7f6567c67d4c117e7f29f27ee003fb8d245e2cc202da35629dabfd71", checked := Tryd.checked }
namespace Rows
def none {H : Type} : Left H := { results := [], args := [] }

/- WHAT THE LISTED PACKAGE-LEVEL VARIABLES READ AS WHEN THE CALL BEGINS. Each datum BY PROGRAM (the guide's laid-datum.mjs) off the statement by which the dump's own 'gosem.cut.vars' lays the variable. In a bare row this is a premise. The card (YtbbnheiibkcgiaaDoorCards.lean) ties it to the program's text. -/
def laid_loop_example_g00856_impl_stitches {H : Type} : DataW H := .agg [.agg [.lit (.int .i32 0), .lit (.int .i64 0), .lit (.int .i64 0), .lit (.int .i64 0)], .agg [.lit (.int .i32 107), .lit (.int .i64 1), .lit (.int .i64 1), .lit (.int .i64 1)], .agg [.lit (.int .i32 112), .lit (.int .i64 1), .lit (.int .i64 1), .lit (.int .i64 2)], .agg [.lit (.int .i32 111), .lit (.int .i64 0), .lit (.int .i64 1), .lit (.int .i64 3)], .agg [.lit (.int .i32 100), .lit (.int .i64 2), .lit (.int .i64 1), .lit (.int .i64 5)], .agg [.lit (.int .i32 101), .lit (.int .i64 2), .lit (.int .i64 1), .lit (.int .i64 4)], .agg [.lit (.int .i32 116), .lit (.int .i64 1), .lit (.int .i64 1), .lit (.int .i64 6)], .agg [.lit (.int .i32 115), .lit (.int .i64 1), .lit (.int .i64 1), .lit (.int .i64 7)], .agg [.lit (.int .i32 120), .lit (.int .i64 2), .lit (.int .i64 2), .lit (.int .i64 9)], .agg [.lit (.int .i32 121), .lit (.int .i64 2), .lit (.int .i64 2), .lit (.int .i64 8)], .agg [.lit (.int .i32 88), .lit (.int .i64 4), .lit (.int .i64 4), .lit (.int .i64 11)], .agg [.lit (.int .i32 89), .lit (.int .i64 4), .lit (.int .i64 4), .lit (.int .i64 10)]]

/-- 'laws.FnExactLayoutWidth': WHATEVER THE INPUT: true; the input reads as it did. -/
def fnExactLayoutWidthSpec : ChangeSpec := { name := "fnExactLayoutWidth", vars := ["loop.example/g00856/impl.stitches"], fn := fun _ => fun
  | [d, g1] => { results := [.lit (.bool true)], args := [d], vars := [g1] }
  | _ => none }
def fnExactLayoutWidthRow : OpenClaim := { program := "ytbbnheiibkcgiaadoor", sum := "76a017ad7f6567c67d4c117e7f29f27ee003fb8d245e2cc202da35629dabfd71", func := "loop.example/g00856/laws.FnExactLayoutWidth", spec := "fnExactLayoutWidth", unfollowed := true, recurses := true, named := ["loop.example/g00856/impl.stitches"], apart := false, laid := [("loop.example/g00856/impl.stitches", laid_loop_example_g00856_impl_stitches)] }
def FnExactLayoutWidthSaid : Prop := fnExactLayoutWidthRow.holds Tryd.pinned (OpenSpec.ofChange fnExactLayoutWidthSpec)

/-- ITS FALSE NEIGHBOUR: 'it returns false'. Refute it at one input. -/
def fnExactLayoutWidthWrong : ChangeSpec := { name := "fnExactLayoutWidth", vars := ["loop.example/g00856/impl.stitches"], fn := fun _ => fun
  | [d, g1] => { results := [.lit (.bool false)], args := [d], vars := [g1] }
  | _ => none }
def FnExactLayoutWidthWrongFalsely : Prop := fnExactLayoutWidthRow.holds Tryd.pinned (OpenSpec.ofChange fnExactLayoutWidthWrong)

/-- 'laws.FnExactRowTargets': WHATEVER THE INPUT: true; the input reads as it did. -/
def fnExactRowTargetsSpec : ChangeSpec := { name := "fnExactRowTargets", vars := ["loop.example/g00856/impl.stitches"], fn := fun _ => fun
  | [d, g1] => { results := [.lit (.bool true)], args := [d], vars := [g1] }
  | _ => none }
def fnExactRowTargetsRow : OpenClaim := { program := "ytbbnheiibkcgiaadoor", sum := "76a017ad7f6567c67d4c117e7f29f27ee003fb8d245e2cc202da35629dabfd71", func := "loop.example/g00856/laws.FnExactRowTargets", spec := "fnExactRowTargets", unfollowed := true, recurses := true, named := ["loop.example/g00856/impl.stitches"], apart := false, laid := [("loop.example/g00856/impl.stitches", laid_loop_example_g00856_impl_stitches)] }
def FnExactRowTargetsSaid : Prop := fnExactRowTargetsRow.holds Tryd.pinned (OpenSpec.ofChange fnExactRowTargetsSpec)

/-- ITS FALSE NEIGHBOUR: 'it returns false'. Refute it at one input. -/
def fnExactRowTargetsWrong : ChangeSpec := { name := "fnExactRowTargets", vars := ["loop.example/g00856/impl.stitches"], fn := fun _ => fun
  | [d, g1] => { results := [.lit (.bool false)], args := [d], vars := [g1] }
  | _ => none }
def FnExactRowTargetsWrongFalsely : Prop := fnExactRowTargetsRow.holds Tryd.pinned (OpenSpec.ofChange fnExactRowTargetsWrong)

/-- 'laws.FnExactRowSources': WHATEVER THE INPUT: true; the input reads as it did. -/
def fnExactRowSourcesSpec : ChangeSpec := { name := "fnExactRowSources", vars := ["loop.example/g00856/impl.stitches"], fn := fun _ => fun
  | [d, g1] => { results := [.lit (.bool true)], args := [d], vars := [g1] }
  | _ => none }
def fnExactRowSourcesRow : OpenClaim := { program := "ytbbnheiibkcgiaadoor", sum := "76a017ad7f6567c67d4c117e7f29f27ee003fb8d245e2cc202da35629dabfd71", func := "loop.example/g00856/laws.FnExactRowSources", spec := "fnExactRowSources", unfollowed := true, recurses := true, named := ["loop.example/g00856/impl.stitches"], apart := false, laid := [("loop.example/g00856/impl.stitches", laid_loop_example_g00856_impl_stitches)] }
def FnExactRowSourcesSaid : Prop := fnExactRowSourcesRow.holds Tryd.pinned (OpenSpec.ofChange fnExactRowSourcesSpec)

/-- ITS FALSE NEIGHBOUR: 'it returns false'. Refute it at one input. -/
def fnExactRowSourcesWrong : ChangeSpec := { name := "fnExactRowSources", vars := ["loop.example/g00856/impl.stitches"], fn := fun _ => fun
  | [d, g1] => { results := [.lit (.bool false)], args := [d], vars := [g1] }
  | _ => none }
def FnExactRowSourcesWrongFalsely : Prop := fnExactRowSourcesRow.holds Tryd.pinned (OpenSpec.ofChange fnExactRowSourcesWrong)

/-- 'laws.FnExactRowResults': WHATEVER THE INPUT: true; the input reads as it did. -/
def fnExactRowResultsSpec : ChangeSpec := { name := "fnExactRowResults", vars := ["loop.example/g00856/impl.stitches"], fn := fun _ => fun
  | [d, g1] => { results := [.lit (.bool true)], args := [d], vars := [g1] }
  | _ => none }
def fnExactRowResultsRow : OpenClaim := { program := "ytbbnheiibkcgiaadoor", sum := "76a017ad7f6567c67d4c117e7f29f27ee003fb8d245e2cc202da35629dabfd71", func := "loop.example/g00856/laws.FnExactRowResults", spec := "fnExactRowResults", unfollowed := true, recurses := true, named := ["loop.example/g00856/impl.stitches"], apart := false, laid := [("loop.example/g00856/impl.stitches", laid_loop_example_g00856_impl_stitches)] }
def FnExactRowResultsSaid : Prop := fnExactRowResultsRow.holds Tryd.pinned (OpenSpec.ofChange fnExactRowResultsSpec)

/-- ITS FALSE NEIGHBOUR: 'it returns false'. Refute it at one input. -/
def fnExactRowResultsWrong : ChangeSpec := { name := "fnExactRowResults", vars := ["loop.example/g00856/impl.stitches"], fn := fun _ => fun
  | [d, g1] => { results := [.lit (.bool false)], args := [d], vars := [g1] }
  | _ => none }
def FnExactRowResultsWrongFalsely : Prop := fnExactRowResultsRow.holds Tryd.pinned (OpenSpec.ofChange fnExactRowResultsWrong)

/-- 'laws.FnExactNewColumns': WHATEVER THE INPUT: true; the input reads as it did. -/
def fnExactNewColumnsSpec : ChangeSpec := { name := "fnExactNewColumns", vars := ["loop.example/g00856/impl.stitches"], fn := fun _ => fun
  | [d, g1] => { results := [.lit (.bool true)], args := [d], vars := [g1] }
  | _ => none }
def fnExactNewColumnsRow : OpenClaim := { program := "ytbbnheiibkcgiaadoor", sum := "76a017ad7f6567c67d4c117e7f29f27ee003fb8d245e2cc202da35629dabfd71", func := "loop.example/g00856/laws.FnExactNewColumns", spec := "fnExactNewColumns", unfollowed := true, recurses := true, named := ["loop.example/g00856/impl.stitches"], apart := false, laid := [("loop.example/g00856/impl.stitches", laid_loop_example_g00856_impl_stitches)] }
def FnExactNewColumnsSaid : Prop := fnExactNewColumnsRow.holds Tryd.pinned (OpenSpec.ofChange fnExactNewColumnsSpec)

/-- ITS FALSE NEIGHBOUR: 'it returns false'. Refute it at one input. -/
def fnExactNewColumnsWrong : ChangeSpec := { name := "fnExactNewColumns", vars := ["loop.example/g00856/impl.stitches"], fn := fun _ => fun
  | [d, g1] => { results := [.lit (.bool false)], args := [d], vars := [g1] }
  | _ => none }
def FnExactNewColumnsWrongFalsely : Prop := fnExactNewColumnsRow.holds Tryd.pinned (OpenSpec.ofChange fnExactNewColumnsWrong)

/- THE SECOND FORM. 'bulk': how many values and letters a reading holds, each counted each time it is reached (what is shared counts as often as it is met; a slice's spare places count too). A statement '..UptoSaid' is the law's where the arguments, and the package variables that the reading takes, are together of bulk at most 1048576: NARROWER than '..Said'. Prove '..Said' where nothing that the law and all that it calls make is longer than what came in: it says more and counts as full. Else prove '..UptoSaid'. A law counts once. -/
mutual
def uptoBulk {H : Type} : DataW H → Nat
  | .lit (.string bytes) => bytes.length + 1
  | .lit _ => 1
  | .nil => 1
  | .ptr d => uptoBulk d + 1
  | .slice elems spare => uptoBulkAll elems + uptoBulkAll spare + 1
  | .agg parts => uptoBulkAll parts + 1
  | .iface _ d => uptoBulk d + 1
  | .map entries => uptoBulkEntries entries + 1
  | .held _ => 1
def uptoBulkAll {H : Type} : List (DataW H) → Nat
  | [] => 0
  | d :: r => uptoBulk d + uptoBulkAll r
def uptoBulkEntries {H : Type} : List (Lit × DataW H) → Nat
  | [] => 0
  | x :: r => uptoBulkEntry x + uptoBulkEntries r
def uptoBulkEntry {H : Type} : Lit × DataW H → Nat
  | (.string bytes, d) => bytes.length + uptoBulk d + 1
  | (_, d) => uptoBulk d + 1
 end
def uptoSmall : (H : Type) → List (DataW H) → Bool := fun _ ds => decide (uptoBulkAll ds ≤ 1048576)
def OpenSpec.upto (s : _root_.Go.ChangeSpec) : _root_.Go.OpenSpec := { _root_.Go.OpenSpec.ofChange s with cond := some uptoSmall }

/-- 'laws.FnExactLayoutWidth', WHERE WHAT IT READS IS OF BULK AT MOST 1048576: true; the input reads as it did. -/
def fnExactLayoutWidthUptoRow : OpenClaim := { program := "ytbbnheiibkcgiaadoor", sum := "76a017ad7f6567c67d4c117e7f29f27ee003fb8d245e2cc202da35629dabfd71", func := "loop.example/g00856/laws.FnExactLayoutWidth", spec := "fnExactLayoutWidth", unfollowed := true, recurses := true, named := ["loop.example/g00856/impl.stitches"], apart := false, laid := [("loop.example/g00856/impl.stitches", laid_loop_example_g00856_impl_stitches)], narrowed := true }
def FnExactLayoutWidthUptoSaid : Prop := fnExactLayoutWidthUptoRow.holds Tryd.pinned (OpenSpec.upto fnExactLayoutWidthSpec)

/-- 'laws.FnExactRowTargets', WHERE WHAT IT READS IS OF BULK AT MOST 1048576: true; the input reads as it did. -/
def fnExactRowTargetsUptoRow : OpenClaim := { program := "ytbbnheiibkcgiaadoor", sum := "76a017ad7f6567c67d4c117e7f29f27ee003fb8d245e2cc202da35629dabfd71", func := "loop.example/g00856/laws.FnExactRowTargets", spec := "fnExactRowTargets", unfollowed := true, recurses := true, named := ["loop.example/g00856/impl.stitches"], apart := false, laid := [("loop.example/g00856/impl.stitches", laid_loop_example_g00856_impl_stitches)], narrowed := true }
def FnExactRowTargetsUptoSaid : Prop := fnExactRowTargetsUptoRow.holds Tryd.pinned (OpenSpec.upto fnExactRowTargetsSpec)

/-- 'laws.FnExactRowSources', WHERE WHAT IT READS IS OF BULK AT MOST 1048576: true; the input reads as it did. -/
def fnExactRowSourcesUptoRow : OpenClaim := { program := "ytbbnheiibkcgiaadoor", sum := "76a017ad7f6567c67d4c117e7f29f27ee003fb8d245e2cc202da35629dabfd71", func := "loop.example/g00856/laws.FnExactRowSources", spec := "fnExactRowSources", unfollowed := true, recurses := true, named := ["loop.example/g00856/impl.stitches"], apart := false, laid := [("loop.example/g00856/impl.stitches", laid_loop_example_g00856_impl_stitches)], narrowed := true }
def FnExactRowSourcesUptoSaid : Prop := fnExactRowSourcesUptoRow.holds Tryd.pinned (OpenSpec.upto fnExactRowSourcesSpec)

/-- 'laws.FnExactRowResults', WHERE WHAT IT READS IS OF BULK AT MOST 1048576: true; the input reads as it did. -/
def fnExactRowResultsUptoRow : OpenClaim := { program := "ytbbnheiibkcgiaadoor", sum := "76a017ad7f6567c67d4c117e7f29f27ee003fb8d245e2cc202da35629dabfd71", func := "loop.example/g00856/laws.FnExactRowResults", spec := "fnExactRowResults", unfollowed := true, recurses := true, named := ["loop.example/g00856/impl.stitches"], apart := false, laid := [("loop.example/g00856/impl.stitches", laid_loop_example_g00856_impl_stitches)], narrowed := true }
def FnExactRowResultsUptoSaid : Prop := fnExactRowResultsUptoRow.holds Tryd.pinned (OpenSpec.upto fnExactRowResultsSpec)

/-- 'laws.FnExactNewColumns', WHERE WHAT IT READS IS OF BULK AT MOST 1048576: true; the input reads as it did. -/
def fnExactNewColumnsUptoRow : OpenClaim := { program := "ytbbnheiibkcgiaadoor", sum := "76a017ad7f6567c67d4c117e7f29f27ee003fb8d245e2cc202da35629dabfd71", func := "loop.example/g00856/laws.FnExactNewColumns", spec := "fnExactNewColumns", unfollowed := true, recurses := true, named := ["loop.example/g00856/impl.stitches"], apart := false, laid := [("loop.example/g00856/impl.stitches", laid_loop_example_g00856_impl_stitches)], narrowed := true }
def FnExactNewColumnsUptoSaid : Prop := fnExactNewColumnsUptoRow.holds Tryd.pinned (OpenSpec.upto fnExactNewColumnsSpec)

end Rows
end Go.Proofs.YtbbnheiibkcgiaaDoor
