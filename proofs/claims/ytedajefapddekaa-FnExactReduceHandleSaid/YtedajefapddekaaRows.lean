/-
  No cell of these rows narrows 'for every input' (looked for: loops, veiled, ifaces, maps, wideKeys, modest, calm, conditions, laid).
  DERIVED. THE GIVEN ROWS OF THIS SEAT. 12 by the template 'for every input the law returns true; each argument reads behind the call as it read before'; 0 by the template 'total and deterministic' (their statements: YtedajefapddekaaTotals.lean).
  GIVEN WITH THE SEED: the statements are not yours to turn. If you find one false, say at which input.
  Laid BY PROGRAM, IN A SANDBOX (cutbox-rows.mjs): the forced cells as the released guide's own fill.sh prints them over the translation 2354754ea08cb71b… (all of the seat's roots in one cut). By AI agents, Wed Nov 11 2026. No macro, syntax, notation, axiom, sorry.
-/
import Derived.Test.YtedajefapddekaaChecked
import GoSem.Claim
import GoSem.ClaimJoined
import GoSem.ClaimMapViews
import Derived.JoinedTies
import Derived.KernelRfl
namespace Go.Proofs.Ytedajefapddekaa
/- THE CELL 'sum', in the pinned program and in every row, IS THE sha256 OF THE DUMP (.gsa) THAT YtedajefapddekaaProg.lean LOADS. Nothing in Lean hashes anything: it is a label: what it is worth is what the hold of that sum in a sandbox is worth. -/
noncomputable def Try.pinned : Pinned := { name := "ytedajefapddekaa", sum := "2354754ea08cb71b2e8ef876e708b67aa2cc0c13226c325525edf6306403c87d", checked := Try.checked }
namespace Rows
def none {H : Type} : Left H := { results := [], args := [] }

/-- 'laws.FnExactRackOps': WHATEVER THE INPUT: true; the input reads as it did. -/
def fnExactRackOpsSpec : ChangeSpec := { name := "fnExactRackOps", fn := fun _ => fun
  | [d1, d2] => { results := [.lit (.bool true)], args := [d1, d2] }
  | _ => none }
def fnExactRackOpsRow : OpenClaim := { program := "ytedajefapddekaa", sum := "2354754ea08cb71b2e8ef876e708b67aa2cc0c13226c325525edf6306403c87d", func := "loop.example/g00856/laws.FnExactRackOps", spec := "fnExactRackOps", apart := false }
def FnExactRackOpsSaid : Prop := fnExactRackOpsRow.holds Try.pinned (OpenSpec.ofChange fnExactRackOpsSpec)

/-- ITS FALSE NEIGHBOUR: 'it returns false'. Refute it at one input. -/
def fnExactRackOpsWrong : ChangeSpec := { name := "fnExactRackOps", fn := fun _ => fun
  | [d1, d2] => { results := [.lit (.bool false)], args := [d1, d2] }
  | _ => none }
def FnExactRackOpsWrongFalsely : Prop := fnExactRackOpsRow.holds Try.pinned (OpenSpec.ofChange fnExactRackOpsWrong)

/-- 'laws.FnExactCrossColumns': WHATEVER THE INPUT: true; the input reads as it did. -/
def fnExactCrossColumnsSpec : ChangeSpec := { name := "fnExactCrossColumns", fn := fun _ => fun
  | [d1, d2] => { results := [.lit (.bool true)], args := [d1, d2] }
  | _ => none }
def fnExactCrossColumnsRow : OpenClaim := { program := "ytedajefapddekaa", sum := "2354754ea08cb71b2e8ef876e708b67aa2cc0c13226c325525edf6306403c87d", func := "loop.example/g00856/laws.FnExactCrossColumns", spec := "fnExactCrossColumns", unfollowed := true, recurses := true, apart := false }
def FnExactCrossColumnsSaid : Prop := fnExactCrossColumnsRow.holds Try.pinned (OpenSpec.ofChange fnExactCrossColumnsSpec)

/-- ITS FALSE NEIGHBOUR: 'it returns false'. Refute it at one input. -/
def fnExactCrossColumnsWrong : ChangeSpec := { name := "fnExactCrossColumns", fn := fun _ => fun
  | [d1, d2] => { results := [.lit (.bool false)], args := [d1, d2] }
  | _ => none }
def FnExactCrossColumnsWrongFalsely : Prop := fnExactCrossColumnsRow.holds Try.pinned (OpenSpec.ofChange fnExactCrossColumnsWrong)

/-- 'laws.FnExactSwapLetters': WHATEVER THE INPUT: true; the input reads as it did. -/
def fnExactSwapLettersSpec : ChangeSpec := { name := "fnExactSwapLetters", fn := fun _ => fun
  | [d1, d2, d3, d4] => { results := [.lit (.bool true)], args := [d1, d2, d3, d4] }
  | _ => none }
def fnExactSwapLettersRow : OpenClaim := { program := "ytedajefapddekaa", sum := "2354754ea08cb71b2e8ef876e708b67aa2cc0c13226c325525edf6306403c87d", func := "loop.example/g00856/laws.FnExactSwapLetters", spec := "fnExactSwapLetters", apart := false }
def FnExactSwapLettersSaid : Prop := fnExactSwapLettersRow.holds Try.pinned (OpenSpec.ofChange fnExactSwapLettersSpec)

/-- ITS FALSE NEIGHBOUR: 'it returns false'. Refute it at one input. -/
def fnExactSwapLettersWrong : ChangeSpec := { name := "fnExactSwapLetters", fn := fun _ => fun
  | [d1, d2, d3, d4] => { results := [.lit (.bool false)], args := [d1, d2, d3, d4] }
  | _ => none }
def FnExactSwapLettersWrongFalsely : Prop := fnExactSwapLettersRow.holds Try.pinned (OpenSpec.ofChange fnExactSwapLettersWrong)

/-- 'laws.FnExactColumnBraid': WHATEVER THE INPUT: true; the input reads as it did. -/
def fnExactColumnBraidSpec : ChangeSpec := { name := "fnExactColumnBraid", fn := fun _ => fun
  | [d1, d2] => { results := [.lit (.bool true)], args := [d1, d2] }
  | _ => none }
def fnExactColumnBraidRow : OpenClaim := { program := "ytedajefapddekaa", sum := "2354754ea08cb71b2e8ef876e708b67aa2cc0c13226c325525edf6306403c87d", func := "loop.example/g00856/laws.FnExactColumnBraid", spec := "fnExactColumnBraid", unfollowed := true, recurses := true, apart := false }
def FnExactColumnBraidSaid : Prop := fnExactColumnBraidRow.holds Try.pinned (OpenSpec.ofChange fnExactColumnBraidSpec)

/-- ITS FALSE NEIGHBOUR: 'it returns false'. Refute it at one input. -/
def fnExactColumnBraidWrong : ChangeSpec := { name := "fnExactColumnBraid", fn := fun _ => fun
  | [d1, d2] => { results := [.lit (.bool false)], args := [d1, d2] }
  | _ => none }
def FnExactColumnBraidWrongFalsely : Prop := fnExactColumnBraidRow.holds Try.pinned (OpenSpec.ofChange fnExactColumnBraidWrong)

/-- 'laws.FnExactCrossOps': WHATEVER THE INPUT: true; the input reads as it did. -/
def fnExactCrossOpsSpec : ChangeSpec := { name := "fnExactCrossOps", fn := fun _ => fun
  | [d1, d2] => { results := [.lit (.bool true)], args := [d1, d2] }
  | _ => none }
def fnExactCrossOpsRow : OpenClaim := { program := "ytedajefapddekaa", sum := "2354754ea08cb71b2e8ef876e708b67aa2cc0c13226c325525edf6306403c87d", func := "loop.example/g00856/laws.FnExactCrossOps", spec := "fnExactCrossOps", unfollowed := true, recurses := true, apart := false }
def FnExactCrossOpsSaid : Prop := fnExactCrossOpsRow.holds Try.pinned (OpenSpec.ofChange fnExactCrossOpsSpec)

/-- ITS FALSE NEIGHBOUR: 'it returns false'. Refute it at one input. -/
def fnExactCrossOpsWrong : ChangeSpec := { name := "fnExactCrossOps", fn := fun _ => fun
  | [d1, d2] => { results := [.lit (.bool false)], args := [d1, d2] }
  | _ => none }
def FnExactCrossOpsWrongFalsely : Prop := fnExactCrossOpsRow.holds Try.pinned (OpenSpec.ofChange fnExactCrossOpsWrong)

/-- 'laws.FnExactFirstHandle': WHATEVER THE INPUT: true; the input reads as it did. -/
def fnExactFirstHandleSpec : ChangeSpec := { name := "fnExactFirstHandle", fn := fun _ => fun
  | [d] => { results := [.lit (.bool true)], args := [d] }
  | _ => none }
def fnExactFirstHandleRow : OpenClaim := { program := "ytedajefapddekaa", sum := "2354754ea08cb71b2e8ef876e708b67aa2cc0c13226c325525edf6306403c87d", func := "loop.example/g00856/laws.FnExactFirstHandle", spec := "fnExactFirstHandle", unfollowed := true, recurses := true, apart := false }
def FnExactFirstHandleSaid : Prop := fnExactFirstHandleRow.holds Try.pinned (OpenSpec.ofChange fnExactFirstHandleSpec)

/-- ITS FALSE NEIGHBOUR: 'it returns false'. Refute it at one input. -/
def fnExactFirstHandleWrong : ChangeSpec := { name := "fnExactFirstHandle", fn := fun _ => fun
  | [d] => { results := [.lit (.bool false)], args := [d] }
  | _ => none }
def FnExactFirstHandleWrongFalsely : Prop := fnExactFirstHandleRow.holds Try.pinned (OpenSpec.ofChange fnExactFirstHandleWrong)

/-- 'laws.FnExactReduceHandle': WHATEVER THE INPUT: true; the input reads as it did. -/
def fnExactReduceHandleSpec : ChangeSpec := { name := "fnExactReduceHandle", fn := fun _ => fun
  | [d1, d2] => { results := [.lit (.bool true)], args := [d1, d2] }
  | _ => none }
def fnExactReduceHandleRow : OpenClaim := { program := "ytedajefapddekaa", sum := "2354754ea08cb71b2e8ef876e708b67aa2cc0c13226c325525edf6306403c87d", func := "loop.example/g00856/laws.FnExactReduceHandle", spec := "fnExactReduceHandle", unfollowed := true, recurses := true, apart := false }
def FnExactReduceHandleSaid : Prop := fnExactReduceHandleRow.holds Try.pinned (OpenSpec.ofChange fnExactReduceHandleSpec)

/-- ITS FALSE NEIGHBOUR: 'it returns false'. Refute it at one input. -/
def fnExactReduceHandleWrong : ChangeSpec := { name := "fnExactReduceHandle", fn := fun _ => fun
  | [d1, d2] => { results := [.lit (.bool false)], args := [d1, d2] }
  | _ => none }
def FnExactReduceHandleWrongFalsely : Prop := fnExactReduceHandleRow.holds Try.pinned (OpenSpec.ofChange fnExactReduceHandleWrong)

/-- 'laws.FnExactHandleForm': WHATEVER THE INPUT: true; the input reads as it did. -/
def fnExactHandleFormSpec : ChangeSpec := { name := "fnExactHandleForm", fn := fun _ => fun
  | [d1, d2] => { results := [.lit (.bool true)], args := [d1, d2] }
  | _ => none }
def fnExactHandleFormRow : OpenClaim := { program := "ytedajefapddekaa", sum := "2354754ea08cb71b2e8ef876e708b67aa2cc0c13226c325525edf6306403c87d", func := "loop.example/g00856/laws.FnExactHandleForm", spec := "fnExactHandleForm", unfollowed := true, recurses := true, apart := false }
def FnExactHandleFormSaid : Prop := fnExactHandleFormRow.holds Try.pinned (OpenSpec.ofChange fnExactHandleFormSpec)

/-- ITS FALSE NEIGHBOUR: 'it returns false'. Refute it at one input. -/
def fnExactHandleFormWrong : ChangeSpec := { name := "fnExactHandleForm", fn := fun _ => fun
  | [d1, d2] => { results := [.lit (.bool false)], args := [d1, d2] }
  | _ => none }
def FnExactHandleFormWrongFalsely : Prop := fnExactHandleFormRow.holds Try.pinned (OpenSpec.ofChange fnExactHandleFormWrong)

/-- 'laws.FnExactHandleTrivial': WHATEVER THE INPUT: true; the input reads as it did. -/
def fnExactHandleTrivialSpec : ChangeSpec := { name := "fnExactHandleTrivial", fn := fun _ => fun
  | [d1, d2] => { results := [.lit (.bool true)], args := [d1, d2] }
  | _ => none }
def fnExactHandleTrivialRow : OpenClaim := { program := "ytedajefapddekaa", sum := "2354754ea08cb71b2e8ef876e708b67aa2cc0c13226c325525edf6306403c87d", func := "loop.example/g00856/laws.FnExactHandleTrivial", spec := "fnExactHandleTrivial", unfollowed := true, recurses := true, apart := false }
def FnExactHandleTrivialSaid : Prop := fnExactHandleTrivialRow.holds Try.pinned (OpenSpec.ofChange fnExactHandleTrivialSpec)

/-- ITS FALSE NEIGHBOUR: 'it returns false'. Refute it at one input. -/
def fnExactHandleTrivialWrong : ChangeSpec := { name := "fnExactHandleTrivial", fn := fun _ => fun
  | [d1, d2] => { results := [.lit (.bool false)], args := [d1, d2] }
  | _ => none }
def FnExactHandleTrivialWrongFalsely : Prop := fnExactHandleTrivialRow.holds Try.pinned (OpenSpec.ofChange fnExactHandleTrivialWrong)

/-- 'laws.FnExactHandleEqual': WHATEVER THE INPUT: true; the input reads as it did. -/
def fnExactHandleEqualSpec : ChangeSpec := { name := "fnExactHandleEqual", fn := fun _ => fun
  | [d1, d2, d3] => { results := [.lit (.bool true)], args := [d1, d2, d3] }
  | _ => none }
def fnExactHandleEqualRow : OpenClaim := { program := "ytedajefapddekaa", sum := "2354754ea08cb71b2e8ef876e708b67aa2cc0c13226c325525edf6306403c87d", func := "loop.example/g00856/laws.FnExactHandleEqual", spec := "fnExactHandleEqual", unfollowed := true, recurses := true, apart := false }
def FnExactHandleEqualSaid : Prop := fnExactHandleEqualRow.holds Try.pinned (OpenSpec.ofChange fnExactHandleEqualSpec)

/-- ITS FALSE NEIGHBOUR: 'it returns false'. Refute it at one input. -/
def fnExactHandleEqualWrong : ChangeSpec := { name := "fnExactHandleEqual", fn := fun _ => fun
  | [d1, d2, d3] => { results := [.lit (.bool false)], args := [d1, d2, d3] }
  | _ => none }
def FnExactHandleEqualWrongFalsely : Prop := fnExactHandleEqualRow.holds Try.pinned (OpenSpec.ofChange fnExactHandleEqualWrong)

/-- 'laws.FnExactSignOfBraid': WHATEVER THE INPUT: true; the input reads as it did. -/
def fnExactSignOfBraidSpec : ChangeSpec := { name := "fnExactSignOfBraid", fn := fun _ => fun
  | [d1, d2] => { results := [.lit (.bool true)], args := [d1, d2] }
  | _ => none }
def fnExactSignOfBraidRow : OpenClaim := { program := "ytedajefapddekaa", sum := "2354754ea08cb71b2e8ef876e708b67aa2cc0c13226c325525edf6306403c87d", func := "loop.example/g00856/laws.FnExactSignOfBraid", spec := "fnExactSignOfBraid", unfollowed := true, recurses := true, apart := false }
def FnExactSignOfBraidSaid : Prop := fnExactSignOfBraidRow.holds Try.pinned (OpenSpec.ofChange fnExactSignOfBraidSpec)

/-- ITS FALSE NEIGHBOUR: 'it returns false'. Refute it at one input. -/
def fnExactSignOfBraidWrong : ChangeSpec := { name := "fnExactSignOfBraid", fn := fun _ => fun
  | [d1, d2] => { results := [.lit (.bool false)], args := [d1, d2] }
  | _ => none }
def FnExactSignOfBraidWrongFalsely : Prop := fnExactSignOfBraidRow.holds Try.pinned (OpenSpec.ofChange fnExactSignOfBraidWrong)

/-- 'laws.FnExactCompareBraids': WHATEVER THE INPUT: true; the input reads as it did. -/
def fnExactCompareBraidsSpec : ChangeSpec := { name := "fnExactCompareBraids", fn := fun _ => fun
  | [d1, d2, d3] => { results := [.lit (.bool true)], args := [d1, d2, d3] }
  | _ => none }
def fnExactCompareBraidsRow : OpenClaim := { program := "ytedajefapddekaa", sum := "2354754ea08cb71b2e8ef876e708b67aa2cc0c13226c325525edf6306403c87d", func := "loop.example/g00856/laws.FnExactCompareBraids", spec := "fnExactCompareBraids", unfollowed := true, recurses := true, apart := false }
def FnExactCompareBraidsSaid : Prop := fnExactCompareBraidsRow.holds Try.pinned (OpenSpec.ofChange fnExactCompareBraidsSpec)

/-- ITS FALSE NEIGHBOUR: 'it returns false'. Refute it at one input. -/
def fnExactCompareBraidsWrong : ChangeSpec := { name := "fnExactCompareBraids", fn := fun _ => fun
  | [d1, d2, d3] => { results := [.lit (.bool false)], args := [d1, d2, d3] }
  | _ => none }
def FnExactCompareBraidsWrongFalsely : Prop := fnExactCompareBraidsRow.holds Try.pinned (OpenSpec.ofChange fnExactCompareBraidsWrong)

/- THE SECOND FORM. 'bulk': how many values and letters a reading holds, each counted each time it is reached (what is shared counts as often as it is met; a slice's spare places count too). A statement '..UptoSaid' is the law's where the arguments, and the package variables that the reading takes, are together of bulk at most 1048576: NARROWER than '..Said'. Prove '..Said' where nothing that the law and all that it calls make is longer than what came in: it says more and counts as full. Else prove '..UptoSaid'. A law counts once. -/
mutual
def uptoBulk {H : Type} : DataW H → Nat
  | .lit (.string bytes) => bytes.length + 1
  | .lit _ => 1
  | .nil => 1
  | .ptr d => uptoBulk d + 1
  | .slice elems spare => uptoBulkAll elems + uptoBulkAll spare + 1
  | .agg parts => uptoBulkAll parts + 1
  | .iface _ d => uptoBulk d + 1
  | .map entries => uptoBulkEntries entries + 1
  | .held _ => 1
def uptoBulkAll {H : Type} : List (DataW H) → Nat
  | [] => 0
  | d :: r => uptoBulk d + uptoBulkAll r
def uptoBulkEntries {H : Type} : List (Lit × DataW H) → Nat
  | [] => 0
  | x :: r => uptoBulkEntry x + uptoBulkEntries r
def uptoBulkEntry {H : Type} : Lit × DataW H → Nat
  | (.string bytes, d) => bytes.length + uptoBulk d + 1
  | (_, d) => uptoBulk d + 1
 end
def uptoSmall : (H : Type) → List (DataW H) → Bool := fun _ ds => decide (uptoBulkAll ds ≤ 1048576)
def OpenSpec.upto (s : _root_.Go.ChangeSpec) : _root_.Go.OpenSpec := { _root_.Go.OpenSpec.ofChange s with cond := some uptoSmall }

/-- 'laws.FnExactRackOps', WHERE WHAT IT READS IS OF BULK AT MOST 1048576: true; the input reads as it did. -/
def fnExactRackOpsUptoRow : OpenClaim := { program := "ytedajefapddekaa", sum := "2354754ea08cb71b2e8ef876e708b67aa2cc0c13226c325525edf6306403c87d", func := "loop.example/g00856/laws.FnExactRackOps", spec := "fnExactRackOps", apart := false, narrowed := true }
def FnExactRackOpsUptoSaid : Prop := fnExactRackOpsUptoRow.holds Try.pinned (OpenSpec.upto fnExactRackOpsSpec)

/-- 'laws.FnExactCrossColumns', WHERE WHAT IT READS IS OF BULK AT MOST 1048576: true; the input reads as it did. -/
def fnExactCrossColumnsUptoRow : OpenClaim := { program := "ytedajefapddekaa", sum := "2354754ea08cb71b2e8ef876e708b67aa2cc0c13226c325525edf6306403c87d", func := "loop.example/g00856/laws.FnExactCrossColumns", spec := "fnExactCrossColumns", unfollowed := true, recurses := true, apart := false, narrowed := true }
def FnExactCrossColumnsUptoSaid : Prop := fnExactCrossColumnsUptoRow.holds Try.pinned (OpenSpec.upto fnExactCrossColumnsSpec)

/-- 'laws.FnExactSwapLetters', WHERE WHAT IT READS IS OF BULK AT MOST 1048576: true; the input reads as it did. -/
def fnExactSwapLettersUptoRow : OpenClaim := { program := "ytedajefapddekaa", sum := "2354754ea08cb71b2e8ef876e708b67aa2cc0c13226c325525edf6306403c87d", func := "loop.example/g00856/laws.FnExactSwapLetters", spec := "fnExactSwapLetters", apart := false, narrowed := true }
def FnExactSwapLettersUptoSaid : Prop := fnExactSwapLettersUptoRow.holds Try.pinned (OpenSpec.upto fnExactSwapLettersSpec)

/-- 'laws.FnExactColumnBraid', WHERE WHAT IT READS IS OF BULK AT MOST 1048576: true; the input reads as it did. -/
def fnExactColumnBraidUptoRow : OpenClaim := { program := "ytedajefapddekaa", sum := "2354754ea08cb71b2e8ef876e708b67aa2cc0c13226c325525edf6306403c87d", func := "loop.example/g00856/laws.FnExactColumnBraid", spec := "fnExactColumnBraid", unfollowed := true, recurses := true, apart := false, narrowed := true }
def FnExactColumnBraidUptoSaid : Prop := fnExactColumnBraidUptoRow.holds Try.pinned (OpenSpec.upto fnExactColumnBraidSpec)

/-- 'laws.FnExactCrossOps', WHERE WHAT IT READS IS OF BULK AT MOST 1048576: true; the input reads as it did. -/
def fnExactCrossOpsUptoRow : OpenClaim := { program := "ytedajefapddekaa", sum := "2354754ea08cb71b2e8ef876e708b67aa2cc0c13226c325525edf6306403c87d", func := "loop.example/g00856/laws.FnExactCrossOps", spec := "fnExactCrossOps", unfollowed := true, recurses := true, apart := false, narrowed := true }
def FnExactCrossOpsUptoSaid : Prop := fnExactCrossOpsUptoRow.holds Try.pinned (OpenSpec.upto fnExactCrossOpsSpec)

/-- 'laws.FnExactFirstHandle', WHERE WHAT IT READS IS OF BULK AT MOST 1048576: true; the input reads as it did. -/
def fnExactFirstHandleUptoRow : OpenClaim := { program := "ytedajefapddekaa", sum := "2354754ea08cb71b2e8ef876e708b67aa2cc0c13226c325525edf6306403c87d", func := "loop.example/g00856/laws.FnExactFirstHandle", spec := "fnExactFirstHandle", unfollowed := true, recurses := true, apart := false, narrowed := true }
def FnExactFirstHandleUptoSaid : Prop := fnExactFirstHandleUptoRow.holds Try.pinned (OpenSpec.upto fnExactFirstHandleSpec)

/-- 'laws.FnExactReduceHandle', WHERE WHAT IT READS IS OF BULK AT MOST 1048576: true; the input reads as it did. -/
def fnExactReduceHandleUptoRow : OpenClaim := { program := "ytedajefapddekaa", sum := "2354754ea08cb71b2e8ef876e708b67aa2cc0c13226c325525edf6306403c87d", func := "loop.example/g00856/laws.FnExactReduceHandle", spec := "fnExactReduceHandle", unfollowed := true, recurses := true, apart := false, narrowed := true }
def FnExactReduceHandleUptoSaid : Prop := fnExactReduceHandleUptoRow.holds Try.pinned (OpenSpec.upto fnExactReduceHandleSpec)

/-- 'laws.FnExactHandleForm', WHERE WHAT IT READS IS OF BULK AT MOST 1048576: true; the input reads as it did. -/
def fnExactHandleFormUptoRow : OpenClaim := { program := "ytedajefapddekaa", sum := "2354754ea08cb71b2e8ef876e708b67aa2cc0c13226c325525edf6306403c87d", func := "loop.example/g00856/laws.FnExactHandleForm", spec := "fnExactHandleForm", unfollowed := true, recurses := true, apart := false, narrowed := true }
def FnExactHandleFormUptoSaid : Prop := fnExactHandleFormUptoRow.holds Try.pinned (OpenSpec.upto fnExactHandleFormSpec)

/-- 'laws.FnExactHandleTrivial', WHERE WHAT IT READS IS OF BULK AT MOST 1048576: true; the input reads as it did. -/
def fnExactHandleTrivialUptoRow : OpenClaim := { program := "ytedajefapddekaa", sum := "2354754ea08cb71b2e8ef876e708b67aa2cc0c13226c325525edf6306403c87d", func := "loop.example/g00856/laws.FnExactHandleTrivial", spec := "fnExactHandleTrivial", unfollowed := true, recurses := true, apart := false, narrowed := true }
def FnExactHandleTrivialUptoSaid : Prop := fnExactHandleTrivialUptoRow.holds Try.pinned (OpenSpec.upto fnExactHandleTrivialSpec)

/-- 'laws.FnExactHandleEqual', WHERE WHAT IT READS IS OF BULK AT MOST 1048576: true; the input reads as it did. -/
def fnExactHandleEqualUptoRow : OpenClaim := { program := "ytedajefapddekaa", sum := "2354754ea08cb71b2e8ef876e708b67aa2cc0c13226c325525edf6306403c87d", func := "loop.example/g00856/laws.FnExactHandleEqual", spec := "fnExactHandleEqual", unfollowed := true, recurses := true, apart := false, narrowed := true }
def FnExactHandleEqualUptoSaid : Prop := fnExactHandleEqualUptoRow.holds Try.pinned (OpenSpec.upto fnExactHandleEqualSpec)

/-- 'laws.FnExactSignOfBraid', WHERE WHAT IT READS IS OF BULK AT MOST 1048576: true; the input reads as it did. -/
def fnExactSignOfBraidUptoRow : OpenClaim := { program := "ytedajefapddekaa", sum := "2354754ea08cb71b2e8ef876e708b67aa2cc0c13226c325525edf6306403c87d", func := "loop.example/g00856/laws.FnExactSignOfBraid", spec := "fnExactSignOfBraid", unfollowed := true, recurses := true, apart := false, narrowed := true }
def FnExactSignOfBraidUptoSaid : Prop := fnExactSignOfBraidUptoRow.holds Try.pinned (OpenSpec.upto fnExactSignOfBraidSpec)

/-- 'laws.FnExactCompareBraids', WHERE WHAT IT READS IS OF BULK AT MOST 1048576: true; the input reads as it did. -/
def fnExactCompareBraidsUptoRow : OpenClaim := { program := "ytedajefapddekaa", sum := "2354754ea08cb71b2e8ef876e708b67aa2cc0c13226c325525edf6306403c87d", func := "loop.example/g00856/laws.FnExactCompareBraids", spec := "fnExactCompareBraids", unfollowed := true, recurses := true, apart := false, narrowed := true }
def FnExactCompareBraidsUptoSaid : Prop := fnExactCompareBraidsUptoRow.holds Try.pinned (OpenSpec.upto fnExactCompareBraidsSpec)

end Rows
end Go.Proofs.Ytedajefapddekaa
