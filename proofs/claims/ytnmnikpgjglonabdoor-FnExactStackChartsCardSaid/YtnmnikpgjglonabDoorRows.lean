/-
  NARROWER THAN 'FOR EVERY INPUT', by the rows' own cells (each row's printed sentence says how): FnExactPiecesText: laid · FnExactRowText: laid · FnExactRepeatChart: laid · FnExactStackCharts: laid · FnExactBesideCharts: laid · FnExactRowBraid: laid.
  DERIVED. THE GIVEN ROWS OF THIS SEAT. 6 by the template 'for every input the law returns true; each argument reads behind the call as it read before'; 0 by the template 'total and deterministic' (their statements: YtnmnikpgjglonabDoorTotals.lean).
  GIVEN WITH THE SEED: the statements are not yours to turn. If you find one false, say at which input.
  Laid BY PROGRAM, IN A SANDBOX (cutbox-rows.mjs): the forced cells as the released guide's own fill.sh prints them over the translation c671e52758346c9e… (all of the seat's roots in one cut). By AI agents, Wed Nov 11 2026. No macro, syntax, notation, axiom, sorry.
-/
import Derived.Test.YtnmnikpgjglonabDoorChecked
import GoSem.Claim
import GoSem.ClaimJoined
import GoSem.ClaimMapViews
import Derived.JoinedTies
import Derived.KernelRfl
namespace Go.Proofs.YtnmnikpgjglonabDoor
/- THE CELL 'sum', in the pinned program and in every row, IS THE sha256 OF THE DUMP (.gsa) THAT YtnmnikpgjglonabDoorProg.lean LOADS. Nothing in Lean hashes anything: it is a label: what it is worth is what the hold of that sum in a sandbox is worth. -/
noncomputable def Tryd.pinned : Pinned := { name := "ytnmnikpgjglonabdoor", sum := "c671e52758346c9ee871ab433c6504a0fa2c80b2a0d7cb41d279feb3346c9ed6", checked := Tryd.checked }
namespace Rows
def none {H : Type} : Left H := { results := [], args := [] }

/- WHAT THE LISTED PACKAGE-LEVEL VARIABLES READ AS WHEN THE CALL BEGINS. Each datum BY PROGRAM (the guide's laid-datum.mjs) off the statement by which the dump's own 'gosem.cut.vars' lays the variable. In a bare row this is a premise. The card (YtnmnikpgjglonabDoorCards.lean) ties it to the program's text. -/
def laid_math_bits_deBruijn32tab {H : Type} : DataW H := .agg [.lit (.int .u8 0), .lit (.int .u8 1), .lit (.int .u8 28), .lit (.int .u8 2), .lit (.int .u8 29), .lit (.int .u8 14), .lit (.int .u8 24), .lit (.int .u8 3), .lit (.int .u8 30), .lit (.int .u8 22), .lit (.int .u8 20), .lit (.int .u8 15), .lit (.int .u8 25), .lit (.int .u8 17), .lit (.int .u8 4), .lit (.int .u8 8), .lit (.int .u8 31), .lit (.int .u8 27), .lit (.int .u8 13), .lit (.int .u8 23), .lit (.int .u8 21), .lit (.int .u8 19), .lit (.int .u8 16), .lit (.int .u8 7), .lit (.int .u8 26), .lit (.int .u8 12), .lit (.int .u8 18), .lit (.int .u8 6), .lit (.int .u8 11), .lit (.int .u8 5), .lit (.int .u8 10), .lit (.int .u8 9)]
def laid_math_bits_deBruijn64tab {H : Type} : DataW H := .agg [.lit (.int .u8 0), .lit (.int .u8 1), .lit (.int .u8 56), .lit (.int .u8 2), .lit (.int .u8 57), .lit (.int .u8 49), .lit (.int .u8 28), .lit (.int .u8 3), .lit (.int .u8 61), .lit (.int .u8 58), .lit (.int .u8 42), .lit (.int .u8 50), .lit (.int .u8 38), .lit (.int .u8 29), .lit (.int .u8 17), .lit (.int .u8 4), .lit (.int .u8 62), .lit (.int .u8 47), .lit (.int .u8 59), .lit (.int .u8 36), .lit (.int .u8 45), .lit (.int .u8 43), .lit (.int .u8 51), .lit (.int .u8 22), .lit (.int .u8 53), .lit (.int .u8 39), .lit (.int .u8 33), .lit (.int .u8 30), .lit (.int .u8 24), .lit (.int .u8 18), .lit (.int .u8 12), .lit (.int .u8 5), .lit (.int .u8 63), .lit (.int .u8 55), .lit (.int .u8 48), .lit (.int .u8 27), .lit (.int .u8 60), .lit (.int .u8 41), .lit (.int .u8 37), .lit (.int .u8 16), .lit (.int .u8 46), .lit (.int .u8 35), .lit (.int .u8 44), .lit (.int .u8 21), .lit (.int .u8 52), .lit (.int .u8 32), .lit (.int .u8 23), .lit (.int .u8 11), .lit (.int .u8 54), .lit (.int .u8 26), .lit (.int .u8 40), .lit (.int .u8 15), .lit (.int .u8 34), .lit (.int .u8 20), .lit (.int .u8 31), .lit (.int .u8 10), .lit (.int .u8 25), .lit (.int .u8 14), .lit (.int .u8 19), .lit (.int .u8 9), .lit (.int .u8 13), .lit (.int .u8 8), .lit (.int .u8 7), .lit (.int .u8 6)]
def laid_internal_strconv_uint64pow10 {H : Type} : DataW H := .agg [.lit (.int .u64 1), .lit (.int .u64 10), .lit (.int .u64 100), .lit (.int .u64 1000), .lit (.int .u64 10000), .lit (.int .u64 100000), .lit (.int .u64 1000000), .lit (.int .u64 10000000), .lit (.int .u64 100000000), .lit (.int .u64 1000000000), .lit (.int .u64 10000000000), .lit (.int .u64 100000000000), .lit (.int .u64 1000000000000), .lit (.int .u64 10000000000000), .lit (.int .u64 100000000000000), .lit (.int .u64 1000000000000000), .lit (.int .u64 10000000000000000), .lit (.int .u64 100000000000000000), .lit (.int .u64 1000000000000000000), .lit (.int .u64 10000000000000000000)]
def laid_loop_example_g00856_impl_stitches {H : Type} : DataW H := .agg [.agg [.lit (.int .i32 0), .lit (.int .i64 0), .lit (.int .i64 0), .lit (.int .i64 0)], .agg [.lit (.int .i32 107), .lit (.int .i64 1), .lit (.int .i64 1), .lit (.int .i64 1)], .agg [.lit (.int .i32 112), .lit (.int .i64 1), .lit (.int .i64 1), .lit (.int .i64 2)], .agg [.lit (.int .i32 111), .lit (.int .i64 0), .lit (.int .i64 1), .lit (.int .i64 3)], .agg [.lit (.int .i32 100), .lit (.int .i64 2), .lit (.int .i64 1), .lit (.int .i64 5)], .agg [.lit (.int .i32 101), .lit (.int .i64 2), .lit (.int .i64 1), .lit (.int .i64 4)], .agg [.lit (.int .i32 116), .lit (.int .i64 1), .lit (.int .i64 1), .lit (.int .i64 6)], .agg [.lit (.int .i32 115), .lit (.int .i64 1), .lit (.int .i64 1), .lit (.int .i64 7)], .agg [.lit (.int .i32 120), .lit (.int .i64 2), .lit (.int .i64 2), .lit (.int .i64 9)], .agg [.lit (.int .i32 121), .lit (.int .i64 2), .lit (.int .i64 2), .lit (.int .i64 8)], .agg [.lit (.int .i32 88), .lit (.int .i64 4), .lit (.int .i64 4), .lit (.int .i64 11)], .agg [.lit (.int .i32 89), .lit (.int .i64 4), .lit (.int .i64 4), .lit (.int .i64 10)]]

/-- 'laws.FnExactPiecesText': WHATEVER THE INPUT: true; the input reads as it did. -/
def fnExactPiecesTextSpec : ChangeSpec := { name := "fnExactPiecesText", vars := ["loop.example/g00856/impl.stitches"], fn := fun _ => fun
  | [d, g1] => { results := [.lit (.bool true)], args := [d], vars := [g1] }
  | _ => none }
def fnExactPiecesTextRow : OpenClaim := { program := "ytnmnikpgjglonabdoor", sum := "c671e52758346c9ee871ab433c6504a0fa2c80b2a0d7cb41d279feb3346c9ed6", func := "loop.example/g00856/laws.FnExactPiecesText", spec := "fnExactPiecesText", inPlace := ["internal/abi.NoEscape", "internal/bytealg.MakeNoZero"], unfollowed := true, recurses := true, named := ["loop.example/g00856/impl.stitches", "internal/strconv.uint64pow10", "math/bits.deBruijn32tab", "math/bits.deBruijn64tab"], apart := false, laid := [("math/bits.deBruijn32tab", laid_math_bits_deBruijn32tab), ("math/bits.deBruijn64tab", laid_math_bits_deBruijn64tab), ("internal/strconv.uint64pow10", laid_internal_strconv_uint64pow10), ("loop.example/g00856/impl.stitches", laid_loop_example_g00856_impl_stitches)] }
def FnExactPiecesTextSaid : Prop := fnExactPiecesTextRow.holds Tryd.pinned (OpenSpec.ofChange fnExactPiecesTextSpec)

/-- ITS FALSE NEIGHBOUR: 'it returns false'. Refute it at one input. -/
def fnExactPiecesTextWrong : ChangeSpec := { name := "fnExactPiecesText", vars := ["loop.example/g00856/impl.stitches"], fn := fun _ => fun
  | [d, g1] => { results := [.lit (.bool false)], args := [d], vars := [g1] }
  | _ => none }
def FnExactPiecesTextWrongFalsely : Prop := fnExactPiecesTextRow.holds Tryd.pinned (OpenSpec.ofChange fnExactPiecesTextWrong)

/-- 'laws.FnExactRowText': WHATEVER THE INPUT: true; the input reads as it did. -/
def fnExactRowTextSpec : ChangeSpec := { name := "fnExactRowText", vars := ["loop.example/g00856/impl.stitches"], fn := fun _ => fun
  | [d, g1] => { results := [.lit (.bool true)], args := [d], vars := [g1] }
  | _ => none }
def fnExactRowTextRow : OpenClaim := { program := "ytnmnikpgjglonabdoor", sum := "c671e52758346c9ee871ab433c6504a0fa2c80b2a0d7cb41d279feb3346c9ed6", func := "loop.example/g00856/laws.FnExactRowText", spec := "fnExactRowText", inPlace := ["internal/abi.NoEscape", "internal/bytealg.MakeNoZero"], unfollowed := true, recurses := true, named := ["loop.example/g00856/impl.stitches", "internal/strconv.uint64pow10", "math/bits.deBruijn32tab", "math/bits.deBruijn64tab"], apart := false, laid := [("math/bits.deBruijn32tab", laid_math_bits_deBruijn32tab), ("math/bits.deBruijn64tab", laid_math_bits_deBruijn64tab), ("internal/strconv.uint64pow10", laid_internal_strconv_uint64pow10), ("loop.example/g00856/impl.stitches", laid_loop_example_g00856_impl_stitches)] }
def FnExactRowTextSaid : Prop := fnExactRowTextRow.holds Tryd.pinned (OpenSpec.ofChange fnExactRowTextSpec)

/-- ITS FALSE NEIGHBOUR: 'it returns false'. Refute it at one input. -/
def fnExactRowTextWrong : ChangeSpec := { name := "fnExactRowText", vars := ["loop.example/g00856/impl.stitches"], fn := fun _ => fun
  | [d, g1] => { results := [.lit (.bool false)], args := [d], vars := [g1] }
  | _ => none }
def FnExactRowTextWrongFalsely : Prop := fnExactRowTextRow.holds Tryd.pinned (OpenSpec.ofChange fnExactRowTextWrong)

/-- 'laws.FnExactRepeatChart': WHATEVER THE INPUT: true; the input reads as it did. -/
def fnExactRepeatChartSpec : ChangeSpec := { name := "fnExactRepeatChart", vars := ["loop.example/g00856/impl.stitches"], fn := fun _ => fun
  | [d1, d2, g1] => { results := [.lit (.bool true)], args := [d1, d2], vars := [g1] }
  | _ => none }
def fnExactRepeatChartRow : OpenClaim := { program := "ytnmnikpgjglonabdoor", sum := "c671e52758346c9ee871ab433c6504a0fa2c80b2a0d7cb41d279feb3346c9ed6", func := "loop.example/g00856/laws.FnExactRepeatChart", spec := "fnExactRepeatChart", unfollowed := true, recurses := true, named := ["loop.example/g00856/impl.stitches"], apart := false, laid := [("loop.example/g00856/impl.stitches", laid_loop_example_g00856_impl_stitches)] }
def FnExactRepeatChartSaid : Prop := fnExactRepeatChartRow.holds Tryd.pinned (OpenSpec.ofChange fnExactRepeatChartSpec)

/-- ITS FALSE NEIGHBOUR: 'it returns false'. Refute it at one input. -/
def fnExactRepeatChartWrong : ChangeSpec := { name := "fnExactRepeatChart", vars := ["loop.example/g00856/impl.stitches"], fn := fun _ => fun
  | [d1, d2, g1] => { results := [.lit (.bool false)], args := [d1, d2], vars := [g1] }
  | _ => none }
def FnExactRepeatChartWrongFalsely : Prop := fnExactRepeatChartRow.holds Tryd.pinned (OpenSpec.ofChange fnExactRepeatChartWrong)

/-- 'laws.FnExactStackCharts': WHATEVER THE INPUT: true; the input reads as it did. -/
def fnExactStackChartsSpec : ChangeSpec := { name := "fnExactStackCharts", vars := ["loop.example/g00856/impl.stitches"], fn := fun _ => fun
  | [d1, d2, g1] => { results := [.lit (.bool true)], args := [d1, d2], vars := [g1] }
  | _ => none }
def fnExactStackChartsRow : OpenClaim := { program := "ytnmnikpgjglonabdoor", sum := "c671e52758346c9ee871ab433c6504a0fa2c80b2a0d7cb41d279feb3346c9ed6", func := "loop.example/g00856/laws.FnExactStackCharts", spec := "fnExactStackCharts", unfollowed := true, recurses := true, named := ["loop.example/g00856/impl.stitches"], apart := false, laid := [("loop.example/g00856/impl.stitches", laid_loop_example_g00856_impl_stitches)] }
def FnExactStackChartsSaid : Prop := fnExactStackChartsRow.holds Tryd.pinned (OpenSpec.ofChange fnExactStackChartsSpec)

/-- ITS FALSE NEIGHBOUR: 'it returns false'. Refute it at one input. -/
def fnExactStackChartsWrong : ChangeSpec := { name := "fnExactStackCharts", vars := ["loop.example/g00856/impl.stitches"], fn := fun _ => fun
  | [d1, d2, g1] => { results := [.lit (.bool false)], args := [d1, d2], vars := [g1] }
  | _ => none }
def FnExactStackChartsWrongFalsely : Prop := fnExactStackChartsRow.holds Tryd.pinned (OpenSpec.ofChange fnExactStackChartsWrong)

/-- 'laws.FnExactBesideCharts': WHATEVER THE INPUT: true; the input reads as it did. -/
def fnExactBesideChartsSpec : ChangeSpec := { name := "fnExactBesideCharts", vars := ["loop.example/g00856/impl.stitches"], fn := fun _ => fun
  | [d1, d2, g1] => { results := [.lit (.bool true)], args := [d1, d2], vars := [g1] }
  | _ => none }
def fnExactBesideChartsRow : OpenClaim := { program := "ytnmnikpgjglonabdoor", sum := "c671e52758346c9ee871ab433c6504a0fa2c80b2a0d7cb41d279feb3346c9ed6", func := "loop.example/g00856/laws.FnExactBesideCharts", spec := "fnExactBesideCharts", unfollowed := true, recurses := true, named := ["loop.example/g00856/impl.stitches"], apart := false, laid := [("loop.example/g00856/impl.stitches", laid_loop_example_g00856_impl_stitches)] }
def FnExactBesideChartsSaid : Prop := fnExactBesideChartsRow.holds Tryd.pinned (OpenSpec.ofChange fnExactBesideChartsSpec)

/-- ITS FALSE NEIGHBOUR: 'it returns false'. Refute it at one input. -/
def fnExactBesideChartsWrong : ChangeSpec := { name := "fnExactBesideCharts", vars := ["loop.example/g00856/impl.stitches"], fn := fun _ => fun
  | [d1, d2, g1] => { results := [.lit (.bool false)], args := [d1, d2], vars := [g1] }
  | _ => none }
def FnExactBesideChartsWrongFalsely : Prop := fnExactBesideChartsRow.holds Tryd.pinned (OpenSpec.ofChange fnExactBesideChartsWrong)

/-- 'laws.FnExactRowBraid': WHATEVER THE INPUT: true; the input reads as it did. -/
def fnExactRowBraidSpec : ChangeSpec := { name := "fnExactRowBraid", vars := ["loop.example/g00856/impl.stitches"], fn := fun _ => fun
  | [d1, d2, g1] => { results := [.lit (.bool true)], args := [d1, d2], vars := [g1] }
  | _ => none }
def fnExactRowBraidRow : OpenClaim := { program := "ytnmnikpgjglonabdoor", sum := "c671e52758346c9ee871ab433c6504a0fa2c80b2a0d7cb41d279feb3346c9ed6", func := "loop.example/g00856/laws.FnExactRowBraid", spec := "fnExactRowBraid", unfollowed := true, recurses := true, named := ["loop.example/g00856/impl.stitches"], apart := false, laid := [("loop.example/g00856/impl.stitches", laid_loop_example_g00856_impl_stitches)] }
def FnExactRowBraidSaid : Prop := fnExactRowBraidRow.holds Tryd.pinned (OpenSpec.ofChange fnExactRowBraidSpec)

/-- ITS FALSE NEIGHBOUR: 'it returns false'. Refute it at one input. -/
def fnExactRowBraidWrong : ChangeSpec := { name := "fnExactRowBraid", vars := ["loop.example/g00856/impl.stitches"], fn := fun _ => fun
  | [d1, d2, g1] => { results := [.lit (.bool false)], args := [d1, d2], vars := [g1] }
  | _ => none }
def FnExactRowBraidWrongFalsely : Prop := fnExactRowBraidRow.holds Tryd.pinned (OpenSpec.ofChange fnExactRowBraidWrong)

/- THE SECOND FORM. 'bulk': how many values and letters a reading holds, each counted each time it is reached (what is shared counts as often as it is met; a slice's spare places count too). A statement '..UptoSaid' is the law's where the arguments, and the package variables that the reading takes, are together of bulk at most 1048576: NARROWER than '..Said'. Prove '..Said' where nothing that the law and all that it calls make is longer than what came in: it says more and counts as full. Else prove '..UptoSaid'. A law counts once. -/
mutual
def uptoBulk {H : Type} : DataW H → Nat
  | .lit (.string bytes) => bytes.length + 1
  | .lit _ => 1
  | .nil => 1
  | .ptr d => uptoBulk d + 1
  | .slice elems spare => uptoBulkAll elems + uptoBulkAll spare + 1
  | .agg parts => uptoBulkAll parts + 1
  | .iface _ d => uptoBulk d + 1
  | .map entries => uptoBulkEntries entries + 1
  | .held _ => 1
def uptoBulkAll {H : Type} : List (DataW H) → Nat
  | [] => 0
  | d :: r => uptoBulk d + uptoBulkAll r
def uptoBulkEntries {H : Type} : List (Lit × DataW H) → Nat
  | [] => 0
  | x :: r => uptoBulkEntry x + uptoBulkEntries r
def uptoBulkEntry {H : Type} : Lit × DataW H → Nat
  | (.string bytes, d) => bytes.length + uptoBulk d + 1
  | (_, d) => uptoBulk d + 1
 end
def uptoSmall : (H : Type) → List (DataW H) → Bool := fun _ ds => decide (uptoBulkAll ds ≤ 1048576)
def OpenSpec.upto (s : _root_.Go.ChangeSpec) : _root_.Go.OpenSpec := { _root_.Go.OpenSpec.ofChange s with cond := some uptoSmall }

/-- 'laws.FnExactPiecesText', WHERE WHAT IT READS IS OF BULK AT MOST 1048576: true; the input reads as it did. -/
def fnExactPiecesTextUptoRow : OpenClaim := { program := "ytnmnikpgjglonabdoor", sum := "c671e52758346c9ee871ab433c6504a0fa2c80b2a0d7cb41d279feb3346c9ed6", func := "loop.example/g00856/laws.FnExactPiecesText", spec := "fnExactPiecesText", inPlace := ["internal/abi.NoEscape", "internal/bytealg.MakeNoZero"], unfollowed := true, recurses := true, named := ["loop.example/g00856/impl.stitches", "internal/strconv.uint64pow10", "math/bits.deBruijn32tab", "math/bits.deBruijn64tab"], apart := false, laid := [("math/bits.deBruijn32tab", laid_math_bits_deBruijn32tab), ("math/bits.deBruijn64tab", laid_math_bits_deBruijn64tab), ("internal/strconv.uint64pow10", laid_internal_strconv_uint64pow10), ("loop.example/g00856/impl.stitches", laid_loop_example_g00856_impl_stitches)], narrowed := true }
def FnExactPiecesTextUptoSaid : Prop := fnExactPiecesTextUptoRow.holds Tryd.pinned (OpenSpec.upto fnExactPiecesTextSpec)

/-- 'laws.FnExactRowText', WHERE WHAT IT READS IS OF BULK AT MOST 1048576: true; the input reads as it did. -/
def fnExactRowTextUptoRow : OpenClaim := { program := "ytnmnikpgjglonabdoor", sum := "c671e52758346c9ee871ab433c6504a0fa2c80b2a0d7cb41d279feb3346c9ed6", func := "loop.example/g00856/laws.FnExactRowText", spec := "fnExactRowText", inPlace := ["internal/abi.NoEscape", "internal/bytealg.MakeNoZero"], unfollowed := true, recurses := true, named := ["loop.example/g00856/impl.stitches", "internal/strconv.uint64pow10", "math/bits.deBruijn32tab", "math/bits.deBruijn64tab"], apart := false, laid := [("math/bits.deBruijn32tab", laid_math_bits_deBruijn32tab), ("math/bits.deBruijn64tab", laid_math_bits_deBruijn64tab), ("internal/strconv.uint64pow10", laid_internal_strconv_uint64pow10), ("loop.example/g00856/impl.stitches", laid_loop_example_g00856_impl_stitches)], narrowed := true }
def FnExactRowTextUptoSaid : Prop := fnExactRowTextUptoRow.holds Tryd.pinned (OpenSpec.upto fnExactRowTextSpec)

/-- 'laws.FnExactRepeatChart', WHERE WHAT IT READS IS OF BULK AT MOST 1048576: true; the input reads as it did. -/
def fnExactRepeatChartUptoRow : OpenClaim := { program := "ytnmnikpgjglonabdoor", sum := "c671e52758346c9ee871ab433c6504a0fa2c80b2a0d7cb41d279feb3346c9ed6", func := "loop.example/g00856/laws.FnExactRepeatChart", spec := "fnExactRepeatChart", unfollowed := true, recurses := true, named := ["loop.example/g00856/impl.stitches"], apart := false, laid := [("loop.example/g00856/impl.stitches", laid_loop_example_g00856_impl_stitches)], narrowed := true }
def FnExactRepeatChartUptoSaid : Prop := fnExactRepeatChartUptoRow.holds Tryd.pinned (OpenSpec.upto fnExactRepeatChartSpec)

/-- 'laws.FnExactStackCharts', WHERE WHAT IT READS IS OF BULK AT MOST 1048576: true; the input reads as it did. -/
def fnExactStackChartsUptoRow : OpenClaim := { program := "ytnmnikpgjglonabdoor", sum := "c671e52758346c9ee871ab433c6504a0fa2c80b2a0d7cb41d279feb3346c9ed6", func := "loop.example/g00856/laws.FnExactStackCharts", spec := "fnExactStackCharts", unfollowed := true, recurses := true, named := ["loop.example/g00856/impl.stitches"], apart := false, laid := [("loop.example/g00856/impl.stitches", laid_loop_example_g00856_impl_stitches)], narrowed := true }
def FnExactStackChartsUptoSaid : Prop := fnExactStackChartsUptoRow.holds Tryd.pinned (OpenSpec.upto fnExactStackChartsSpec)

/-- 'laws.FnExactBesideCharts', WHERE WHAT IT READS IS OF BULK AT MOST 1048576: true; the input reads as it did. -/
def fnExactBesideChartsUptoRow : OpenClaim := { program := "ytnmnikpgjglonabdoor", sum := "c671e52758346c9ee871ab433c6504a0fa2c80b2a0d7cb41d279feb3346c9ed6", func := "loop.example/g00856/laws.FnExactBesideCharts", spec := "fnExactBesideCharts", unfollowed := true, recurses := true, named := ["loop.example/g00856/impl.stitches"], apart := false, laid := [("loop.example/g00856/impl.stitches", laid_loop_example_g00856_impl_stitches)], narrowed := true }
def FnExactBesideChartsUptoSaid : Prop := fnExactBesideChartsUptoRow.holds Tryd.pinned (OpenSpec.upto fnExactBesideChartsSpec)

/-- 'laws.FnExactRowBraid', WHERE WHAT IT READS IS OF BULK AT MOST 1048576: true; the input reads as it did. -/
def fnExactRowBraidUptoRow : OpenClaim := { program := "ytnmnikpgjglonabdoor", sum := "c671e52758346c9ee871ab433c6504a0fa2c80b2a0d7cb41d279feb3346c9ed6", func := "loop.example/g00856/laws.FnExactRowBraid", spec := "fnExactRowBraid", unfollowed := true, recurses := true, named := ["loop.example/g00856/impl.stitches"], apart := false, laid := [("loop.example/g00856/impl.stitches", laid_loop_example_g00856_impl_stitches)], narrowed := true }
def FnExactRowBraidUptoSaid : Prop := fnExactRowBraidUptoRow.holds Tryd.pinned (OpenSpec.upto fnExactRowBraidSpec)

end Rows
end Go.Proofs.YtnmnikpgjglonabDoor
