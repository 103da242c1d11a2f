/-
  NARROWER THAN 'FOR EVERY INPUT', by the rows' own cells (each row's printed sentence says how): FnExactRepeatChart: laid · FnExactBesideCharts: laid.
  DERIVED. THE GIVEN ROWS OF THIS SEAT. 2 by the template 'for every input the law returns true; each argument reads behind the call as it read before'; 0 by the template 'total and deterministic' (their statements: YtbbnheiibkcgiabDoorTotals.lean).
  GIVEN WITH THE SEED: the statements are not yours to turn. If you find one false, say at which input.
  Laid BY PROGRAM, IN A SANDBOX (cutbox-rows.mjs): the forced cells as the released guide's own fill.sh prints them over the translation 501268a896be8268… (all of the seat's roots in one cut). By AI agents, Wed Nov 11 2026. No macro, syntax, notation, axiom, sorry.
-/
import Derived.Test.YtbbnheiibkcgiabDoorChecked
import GoSem.Claim
import GoSem.ClaimJoined
import GoSem.ClaimMapViews
import Derived.JoinedTies
import Derived.KernelRfl
namespace Go.Proofs.YtbbnheiibkcgiabDoor
/- THE CELL 'sum', in the pinned program and in every row, IS THE sha256 OF THE DUMP (.gsa) THAT YtbbnheiibkcgiabDoorProg.lean LOADS. Nothing in Lean hashes anything: it is a label: what it is worth is what the hold of that sum in a sandbox is worth. -/
noncomputable def Tryd.pinned : Pinned := { name := "ytbbnheiibkcgiabdoor", sum := "501268a896be82683f60a56ddfc4f5af10ea0531691040c7a9f0c136f1b52cdb", checked := Tryd.checked }
namespace Rows
def none {H : Type} : Left H := { results := [], args := [] }

/- WHAT THE LISTED PACKAGE-LEVEL VARIABLES READ AS WHEN THE CALL BEGINS. Each datum BY PROGRAM (the guide's laid-datum.mjs) off the statement by which the dump's own 'gosem.cut.vars' lays the variable. In a bare row this is a premise. The card (YtbbnheiibkcgiabDoorCards.lean) ties it to the program's text. -/
def laid_loop_example_g00856_impl_stitches {H : Type} : DataW H := .agg [.agg [.lit (.int .i32 0), .lit (.int .i64 0), .lit (.int .i64 0), .lit (.int .i64 0)], .agg [.lit (.int .i32 107), .lit (.int .i64 1), .lit (.int .i64 1), .lit (.int .i64 1)], .agg [.lit (.int .i32 112), .lit (.int .i64 1), .lit (.int .i64 1), .lit (.int .i64 2)], .agg [.lit (.int .i32 111), .lit (.int .i64 0), .lit (.int .i64 1), .lit (.int .i64 3)], .agg [.lit (.int .i32 100), .lit (.int .i64 2), .lit (.int .i64 1), .lit (.int .i64 5)], .agg [.lit (.int .i32 101), .lit (.int .i64 2), .lit (.int .i64 1), .lit (.int .i64 4)], .agg [.lit (.int .i32 116), .lit (.int .i64 1), .lit (.int .i64 1), .lit (.int .i64 6)], .agg [.lit (.int .i32 115), .lit (.int .i64 1), .lit (.int .i64 1), .lit (.int .i64 7)], .agg [.lit (.int .i32 120), .lit (.int .i64 2), .lit (.int .i64 2), .lit (.int .i64 9)], .agg [.lit (.int .i32 121), .lit (.int .i64 2), .lit (.int .i64 2), .lit (.int .i64 8)], .agg [.lit (.int .i32 88), .lit (.int .i64 4), .lit (.int .i64 4), .lit (.int .i64 11)], .agg [.lit (.int .i32 89), .lit (.int .i64 4), .lit (.int .i64 4), .lit (.int .i64 10)]]

/-- 'laws.FnExactRepeatChart': WHATEVER THE INPUT: true; the input reads as it did. -/
def fnExactRepeatChartSpec : ChangeSpec := { name := "fnExactRepeatChart", vars := ["loop.example/g00856/impl.stitches"], fn := fun _ => fun
  | [d1, d2, g1] => { results := [.lit (.bool true)], args := [d1, d2], vars := [g1] }
  | _ => none }
def fnExactRepeatChartRow : OpenClaim := { program := "ytbbnheiibkcgiabdoor", sum := "501268a896be82683f60a56ddfc4f5af10ea0531691040c7a9f0c136f1b52cdb", func := "loop.example/g00856/laws.FnExactRepeatChart", spec := "fnExactRepeatChart", unfollowed := true, recurses := true, named := ["loop.example/g00856/impl.stitches"], apart := false, laid := [("loop.example/g00856/impl.stitches", laid_loop_example_g00856_impl_stitches)] }
def FnExactRepeatChartSaid : Prop := fnExactRepeatChartRow.holds Tryd.pinned (OpenSpec.ofChange fnExactRepeatChartSpec)

/-- ITS FALSE NEIGHBOUR: 'it returns false'. Refute it at one input. -/
def fnExactRepeatChartWrong : ChangeSpec := { name := "fnExactRepeatChart", vars := ["loop.example/g00856/impl.stitches"], fn := fun _ => fun
  | [d1, d2, g1] => { results := [.lit (.bool false)], args := [d1, d2], vars := [g1] }
  | _ => none }
def FnExactRepeatChartWrongFalsely : Prop := fnExactRepeatChartRow.holds Tryd.pinned (OpenSpec.ofChange fnExactRepeatChartWrong)

/-- 'laws.FnExactBesideCharts': WHATEVER THE INPUT: true; the input reads as it did. -/
def fnExactBesideChartsSpec : ChangeSpec := { name := "fnExactBesideCharts", vars := ["loop.example/g00856/impl.stitches"], fn := fun _ => fun
  | [d1, d2, g1] => { results := [.lit (.bool true)], args := [d1, d2], vars := [g1] }
  | _ => none }
def fnExactBesideChartsRow : OpenClaim := { program := "ytbbnheiibkcgiabdoor", sum := "501268a896be82683f60a56ddfc4f5af10ea0531691040c7a9f0c136f1b52cdb", func := "loop.example/g00856/laws.FnExactBesideCharts", spec := "fnExactBesideCharts", unfollowed := true, recurses := true, named := ["loop.example/g00856/impl.stitches"], apart := false, laid := [("loop.example/g00856/impl.stitches", laid_loop_example_g00856_impl_stitches)] }
def FnExactBesideChartsSaid : Prop := fnExactBesideChartsRow.holds Tryd.pinned (OpenSpec.ofChange fnExactBesideChartsSpec)

/-- ITS FALSE NEIGHBOUR: 'it returns false'. Refute it at one input. -/
def fnExactBesideChartsWrong : ChangeSpec := { name := "fnExactBesideCharts", vars := ["loop.example/g00856/impl.stitches"], fn := fun _ => fun
  | [d1, d2, g1] => { results := [.lit (.bool false)], args := [d1, d2], vars := [g1] }
  | _ => none }
def FnExactBesideChartsWrongFalsely : Prop := fnExactBesideChartsRow.holds Tryd.pinned (OpenSpec.ofChange fnExactBesideChartsWrong)

/- THE SECOND FORM. 'bulk': how many values and letters a reading holds, each counted each time it is reached (what is shared counts as often as it is met; a slice's spare places count too). A statement '..UptoSaid' is the law's where the arguments, and the package variables that the reading takes, are together of bulk at most 1048576: NARROWER than '..Said'. Prove '..Said' where nothing that the law and all that it calls make is longer than what came in: it says more and counts as full. Else prove '..UptoSaid'. A law counts once. -/
mutual
def uptoBulk {H : Type} : DataW H → Nat
  | .lit (.string bytes) => bytes.length + 1
  | .lit _ => 1
  | .nil => 1
  | .ptr d => uptoBulk d + 1
  | .slice elems spare => uptoBulkAll elems + uptoBulkAll spare + 1
  | .agg parts => uptoBulkAll parts + 1
  | .iface _ d => uptoBulk d + 1
  | .map entries => uptoBulkEntries entries + 1
  | .held _ => 1
def uptoBulkAll {H : Type} : List (DataW H) → Nat
  | [] => 0
  | d :: r => uptoBulk d + uptoBulkAll r
def uptoBulkEntries {H : Type} : List (Lit × DataW H) → Nat
  | [] => 0
  | x :: r => uptoBulkEntry x + uptoBulkEntries r
def uptoBulkEntry {H : Type} : Lit × DataW H → Nat
  | (.string bytes, d) => bytes.length + uptoBulk d + 1
  | (_, d) => uptoBulk d + 1
 end
def uptoSmall : (H : Type) → List (DataW H) → Bool := fun _ ds => decide (uptoBulkAll ds ≤ 1048576)
def OpenSpec.upto (s : _root_.Go.ChangeSpec) : _root_.Go.OpenSpec := { _root_.Go.OpenSpec.ofChange s with cond := some uptoSmall }

/-- 'laws.FnExactRepeatChart', WHERE WHAT IT READS IS OF BULK AT MOST 1048576: true; the input reads as it did. -/
def fnExactRepeatChartUptoRow : OpenClaim := { program := "ytbbnheiibkcgiabdoor", sum := "501268a896be82683f60a56ddfc4f5af10ea0531691040c7a9f0c136f1b52cdb", func := "loop.example/g00856/laws.FnExactRepeatChart", spec := "fnExactRepeatChart", unfollowed := true, recurses := true, named := ["loop.example/g00856/impl.stitches"], apart := false, laid := [("loop.example/g00856/impl.stitches", laid_loop_example_g00856_impl_stitches)], narrowed := true }
def FnExactRepeatChartUptoSaid : Prop := fnExactRepeatChartUptoRow.holds Tryd.pinned (OpenSpec.upto fnExactRepeatChartSpec)

/-- 'laws.FnExactBesideCharts', WHERE WHAT IT READS IS OF BULK AT MOST 1048576: true; the input reads as it did. -/
def fnExactBesideChartsUptoRow : OpenClaim := { program := "ytbbnheiibkcgiabdoor", sum := "501268a896be82683f60a56ddfc4f5af10ea0531691040c7a9f0c136f1b52cdb", func := "loop.example/g00856/laws.FnExactBesideCharts", spec := "fnExactBesideCharts", unfollowed := true, recurses := true, named := ["loop.example/g00856/impl.stitches"], apart := false, laid := [("loop.example/g00856/impl.stitches", laid_loop_example_g00856_impl_stitches)], narrowed := true }
def FnExactBesideChartsUptoSaid : Prop := fnExactBesideChartsUptoRow.holds Tryd.pinned (OpenSpec.upto fnExactBesideChartsSpec)

end Rows
end Go.Proofs.YtbbnheiibkcgiabDoor
