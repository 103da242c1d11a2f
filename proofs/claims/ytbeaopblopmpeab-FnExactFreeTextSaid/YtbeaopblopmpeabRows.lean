/-
  No cell of these rows narrows 'for every input' (looked for: loops, veiled, ifaces, maps, wideKeys, modest, calm, conditions, laid).
  DERIVED. THE GIVEN ROWS OF THIS SEAT. 10 by the template 'for every input the law returns true; each argument reads behind the call as it read before'; 0 by the template 'total and deterministic' (their statements: YtbeaopblopmpeabTotals.lean).
  GIVEN WITH THE SEED: the statements are not yours to turn. If you find one false, say at which input.
  Laid BY PROGRAM, IN A SANDBOX (cutbox-rows.mjs): the forced cells as the released guide's own fill.sh prints them over the translation 85b59c8334a1fbd5… (all of the seat's roots in one cut). By AI agents, Wed Nov 11 2026. No macro, syntax, notation, axiom, sorry.
-/
import Derived.Test.YtbeaopblopmpeabChecked
import GoSem.Claim
import GoSem.ClaimJoined
import GoSem.ClaimMapViews
import Derived.JoinedTies
import Derived.KernelRfl
namespace Go.Proofs.Ytbeaopblopmpeab
/- THE CELL 'sum', in the pinned program and in every row, IS THE sha256 OF THE DUMP (.gsa) THAT YtbeaopblopmpeabProg.lean LOADS. Nothing in Lean hashes anything: it is a label: what it is worth is what the hold of that sum in a sandbox is worth. -/
noncomputable def Try.pinned : Pinned := { name := "ytbeaopblopmpeab", sum := "85b59c8334a1fbd58d0de8dec264b2cd66b9b885baf46f12a3fc0c7e42f70ffd", checked := Try.checked }
namespace Rows
def none {H : Type} : Left H := { results := [], args := [] }

/-- 'laws.FnExactValidFree': WHATEVER THE INPUT: true; the input reads as it did. -/
def fnExactValidFreeSpec : ChangeSpec := { name := "fnExactValidFree", fn := fun _ => fun
  | [d1, d2] => { results := [.lit (.bool true)], args := [d1, d2] }
  | _ => none }
def fnExactValidFreeRow : OpenClaim := { program := "ytbeaopblopmpeab", sum := "85b59c8334a1fbd58d0de8dec264b2cd66b9b885baf46f12a3fc0c7e42f70ffd", func := "loop.example/g00856/laws.FnExactValidFree", spec := "fnExactValidFree", unfollowed := true, recurses := true, apart := false }
def FnExactValidFreeSaid : Prop := fnExactValidFreeRow.holds Try.pinned (OpenSpec.ofChange fnExactValidFreeSpec)

/-- ITS FALSE NEIGHBOUR: 'it returns false'. Refute it at one input. -/
def fnExactValidFreeWrong : ChangeSpec := { name := "fnExactValidFree", fn := fun _ => fun
  | [d1, d2] => { results := [.lit (.bool false)], args := [d1, d2] }
  | _ => none }
def FnExactValidFreeWrongFalsely : Prop := fnExactValidFreeRow.holds Try.pinned (OpenSpec.ofChange fnExactValidFreeWrong)

/-- 'laws.FnExactFreeReduce': WHATEVER THE INPUT: true; the input reads as it did. -/
def fnExactFreeReduceSpec : ChangeSpec := { name := "fnExactFreeReduce", fn := fun _ => fun
  | [d1, d2] => { results := [.lit (.bool true)], args := [d1, d2] }
  | _ => none }
def fnExactFreeReduceRow : OpenClaim := { program := "ytbeaopblopmpeab", sum := "85b59c8334a1fbd58d0de8dec264b2cd66b9b885baf46f12a3fc0c7e42f70ffd", func := "loop.example/g00856/laws.FnExactFreeReduce", spec := "fnExactFreeReduce", unfollowed := true, recurses := true, apart := false }
def FnExactFreeReduceSaid : Prop := fnExactFreeReduceRow.holds Try.pinned (OpenSpec.ofChange fnExactFreeReduceSpec)

/-- ITS FALSE NEIGHBOUR: 'it returns false'. Refute it at one input. -/
def fnExactFreeReduceWrong : ChangeSpec := { name := "fnExactFreeReduce", fn := fun _ => fun
  | [d1, d2] => { results := [.lit (.bool false)], args := [d1, d2] }
  | _ => none }
def FnExactFreeReduceWrongFalsely : Prop := fnExactFreeReduceRow.holds Try.pinned (OpenSpec.ofChange fnExactFreeReduceWrong)

/-- 'laws.FnExactFreeInverse': WHATEVER THE INPUT: true; the input reads as it did. -/
def fnExactFreeInverseSpec : ChangeSpec := { name := "fnExactFreeInverse", fn := fun _ => fun
  | [d1, d2] => { results := [.lit (.bool true)], args := [d1, d2] }
  | _ => none }
def fnExactFreeInverseRow : OpenClaim := { program := "ytbeaopblopmpeab", sum := "85b59c8334a1fbd58d0de8dec264b2cd66b9b885baf46f12a3fc0c7e42f70ffd", func := "loop.example/g00856/laws.FnExactFreeInverse", spec := "fnExactFreeInverse", unfollowed := true, recurses := true, apart := false }
def FnExactFreeInverseSaid : Prop := fnExactFreeInverseRow.holds Try.pinned (OpenSpec.ofChange fnExactFreeInverseSpec)

/-- ITS FALSE NEIGHBOUR: 'it returns false'. Refute it at one input. -/
def fnExactFreeInverseWrong : ChangeSpec := { name := "fnExactFreeInverse", fn := fun _ => fun
  | [d1, d2] => { results := [.lit (.bool false)], args := [d1, d2] }
  | _ => none }
def FnExactFreeInverseWrongFalsely : Prop := fnExactFreeInverseRow.holds Try.pinned (OpenSpec.ofChange fnExactFreeInverseWrong)

/-- 'laws.FnExactFreeJoin': WHATEVER THE INPUT: true; the input reads as it did. -/
def fnExactFreeJoinSpec : ChangeSpec := { name := "fnExactFreeJoin", fn := fun _ => fun
  | [d1, d2, d3] => { results := [.lit (.bool true)], args := [d1, d2, d3] }
  | _ => none }
def fnExactFreeJoinRow : OpenClaim := { program := "ytbeaopblopmpeab", sum := "85b59c8334a1fbd58d0de8dec264b2cd66b9b885baf46f12a3fc0c7e42f70ffd", func := "loop.example/g00856/laws.FnExactFreeJoin", spec := "fnExactFreeJoin", unfollowed := true, recurses := true, apart := false }
def FnExactFreeJoinSaid : Prop := fnExactFreeJoinRow.holds Try.pinned (OpenSpec.ofChange fnExactFreeJoinSpec)

/-- ITS FALSE NEIGHBOUR: 'it returns false'. Refute it at one input. -/
def fnExactFreeJoinWrong : ChangeSpec := { name := "fnExactFreeJoin", fn := fun _ => fun
  | [d1, d2, d3] => { results := [.lit (.bool false)], args := [d1, d2, d3] }
  | _ => none }
def FnExactFreeJoinWrongFalsely : Prop := fnExactFreeJoinRow.holds Try.pinned (OpenSpec.ofChange fnExactFreeJoinWrong)

/-- 'laws.FnExactFreeCore': WHATEVER THE INPUT: true; the input reads as it did. -/
def fnExactFreeCoreSpec : ChangeSpec := { name := "fnExactFreeCore", fn := fun _ => fun
  | [d1, d2] => { results := [.lit (.bool true)], args := [d1, d2] }
  | _ => none }
def fnExactFreeCoreRow : OpenClaim := { program := "ytbeaopblopmpeab", sum := "85b59c8334a1fbd58d0de8dec264b2cd66b9b885baf46f12a3fc0c7e42f70ffd", func := "loop.example/g00856/laws.FnExactFreeCore", spec := "fnExactFreeCore", unfollowed := true, recurses := true, apart := false }
def FnExactFreeCoreSaid : Prop := fnExactFreeCoreRow.holds Try.pinned (OpenSpec.ofChange fnExactFreeCoreSpec)

/-- ITS FALSE NEIGHBOUR: 'it returns false'. Refute it at one input. -/
def fnExactFreeCoreWrong : ChangeSpec := { name := "fnExactFreeCore", fn := fun _ => fun
  | [d1, d2] => { results := [.lit (.bool false)], args := [d1, d2] }
  | _ => none }
def FnExactFreeCoreWrongFalsely : Prop := fnExactFreeCoreRow.holds Try.pinned (OpenSpec.ofChange fnExactFreeCoreWrong)

/-- 'laws.FnExactFreeText': WHATEVER THE INPUT: true; the input reads as it did. -/
def fnExactFreeTextSpec : ChangeSpec := { name := "fnExactFreeText", fn := fun _ => fun
  | [d1, d2] => { results := [.lit (.bool true)], args := [d1, d2] }
  | _ => none }
def fnExactFreeTextRow : OpenClaim := { program := "ytbeaopblopmpeab", sum := "85b59c8334a1fbd58d0de8dec264b2cd66b9b885baf46f12a3fc0c7e42f70ffd", func := "loop.example/g00856/laws.FnExactFreeText", spec := "fnExactFreeText", unfollowed := true, recurses := true, apart := false }
def FnExactFreeTextSaid : Prop := fnExactFreeTextRow.holds Try.pinned (OpenSpec.ofChange fnExactFreeTextSpec)

/-- ITS FALSE NEIGHBOUR: 'it returns false'. Refute it at one input. -/
def fnExactFreeTextWrong : ChangeSpec := { name := "fnExactFreeText", fn := fun _ => fun
  | [d1, d2] => { results := [.lit (.bool false)], args := [d1, d2] }
  | _ => none }
def FnExactFreeTextWrongFalsely : Prop := fnExactFreeTextRow.holds Try.pinned (OpenSpec.ofChange fnExactFreeTextWrong)

/-- 'laws.FnExactReadFree': WHATEVER THE INPUT: true; the input reads as it did. -/
def fnExactReadFreeSpec : ChangeSpec := { name := "fnExactReadFree", fn := fun _ => fun
  | [d1, d2] => { results := [.lit (.bool true)], args := [d1, d2] }
  | _ => none }
def fnExactReadFreeRow : OpenClaim := { program := "ytbeaopblopmpeab", sum := "85b59c8334a1fbd58d0de8dec264b2cd66b9b885baf46f12a3fc0c7e42f70ffd", func := "loop.example/g00856/laws.FnExactReadFree", spec := "fnExactReadFree", unfollowed := true, recurses := true, apart := false }
def FnExactReadFreeSaid : Prop := fnExactReadFreeRow.holds Try.pinned (OpenSpec.ofChange fnExactReadFreeSpec)

/-- ITS FALSE NEIGHBOUR: 'it returns false'. Refute it at one input. -/
def fnExactReadFreeWrong : ChangeSpec := { name := "fnExactReadFree", fn := fun _ => fun
  | [d1, d2] => { results := [.lit (.bool false)], args := [d1, d2] }
  | _ => none }
def FnExactReadFreeWrongFalsely : Prop := fnExactReadFreeRow.holds Try.pinned (OpenSpec.ofChange fnExactReadFreeWrong)

/-- 'laws.FnExactSplitWords': WHATEVER THE INPUT: true; the input reads as it did. -/
def fnExactSplitWordsSpec : ChangeSpec := { name := "fnExactSplitWords", fn := fun _ => fun
  | [d] => { results := [.lit (.bool true)], args := [d] }
  | _ => none }
def fnExactSplitWordsRow : OpenClaim := { program := "ytbeaopblopmpeab", sum := "85b59c8334a1fbd58d0de8dec264b2cd66b9b885baf46f12a3fc0c7e42f70ffd", func := "loop.example/g00856/laws.FnExactSplitWords", spec := "fnExactSplitWords", unfollowed := true, recurses := true, apart := false }
def FnExactSplitWordsSaid : Prop := fnExactSplitWordsRow.holds Try.pinned (OpenSpec.ofChange fnExactSplitWordsSpec)

/-- ITS FALSE NEIGHBOUR: 'it returns false'. Refute it at one input. -/
def fnExactSplitWordsWrong : ChangeSpec := { name := "fnExactSplitWords", fn := fun _ => fun
  | [d] => { results := [.lit (.bool false)], args := [d] }
  | _ => none }
def FnExactSplitWordsWrongFalsely : Prop := fnExactSplitWordsRow.holds Try.pinned (OpenSpec.ofChange fnExactSplitWordsWrong)

/-- 'laws.FnExactSameNormal': WHATEVER THE INPUT: true; the input reads as it did. -/
def fnExactSameNormalSpec : ChangeSpec := { name := "fnExactSameNormal", fn := fun _ => fun
  | [d1, d2] => { results := [.lit (.bool true)], args := [d1, d2] }
  | _ => none }
def fnExactSameNormalRow : OpenClaim := { program := "ytbeaopblopmpeab", sum := "85b59c8334a1fbd58d0de8dec264b2cd66b9b885baf46f12a3fc0c7e42f70ffd", func := "loop.example/g00856/laws.FnExactSameNormal", spec := "fnExactSameNormal", unfollowed := true, recurses := true, apart := false }
def FnExactSameNormalSaid : Prop := fnExactSameNormalRow.holds Try.pinned (OpenSpec.ofChange fnExactSameNormalSpec)

/-- ITS FALSE NEIGHBOUR: 'it returns false'. Refute it at one input. -/
def fnExactSameNormalWrong : ChangeSpec := { name := "fnExactSameNormal", fn := fun _ => fun
  | [d1, d2] => { results := [.lit (.bool false)], args := [d1, d2] }
  | _ => none }
def FnExactSameNormalWrongFalsely : Prop := fnExactSameNormalRow.holds Try.pinned (OpenSpec.ofChange fnExactSameNormalWrong)

/-- 'laws.FnExactValidNormal': WHATEVER THE INPUT: true; the input reads as it did. -/
def fnExactValidNormalSpec : ChangeSpec := { name := "fnExactValidNormal", fn := fun _ => fun
  | [d] => { results := [.lit (.bool true)], args := [d] }
  | _ => none }
def fnExactValidNormalRow : OpenClaim := { program := "ytbeaopblopmpeab", sum := "85b59c8334a1fbd58d0de8dec264b2cd66b9b885baf46f12a3fc0c7e42f70ffd", func := "loop.example/g00856/laws.FnExactValidNormal", spec := "fnExactValidNormal", apart := false }
def FnExactValidNormalSaid : Prop := fnExactValidNormalRow.holds Try.pinned (OpenSpec.ofChange fnExactValidNormalSpec)

/-- ITS FALSE NEIGHBOUR: 'it returns false'. Refute it at one input. -/
def fnExactValidNormalWrong : ChangeSpec := { name := "fnExactValidNormal", fn := fun _ => fun
  | [d] => { results := [.lit (.bool false)], args := [d] }
  | _ => none }
def FnExactValidNormalWrongFalsely : Prop := fnExactValidNormalRow.holds Try.pinned (OpenSpec.ofChange fnExactValidNormalWrong)

/- THE SECOND FORM. 'bulk': how many values and letters a reading holds, each counted each time it is reached (what is shared counts as often as it is met; a slice's spare places count too). A statement '..UptoSaid' is the law's where the arguments, and the package variables that the reading takes, are together of bulk at most 1048576: NARROWER than '..Said'. Prove '..Said' where nothing that the law and all that it calls make is longer than what came in: it says more and counts as full. Else prove '..UptoSaid'. A law counts once. -/
mutual
def uptoBulk {H : Type} : DataW H → Nat
  | .lit (.string bytes) => bytes.length + 1
  | .lit _ => 1
  | .nil => 1
  | .ptr d => uptoBulk d + 1
  | .slice elems spare => uptoBulkAll elems + uptoBulkAll spare + 1
  | .agg parts => uptoBulkAll parts + 1
  | .iface _ d => uptoBulk d + 1
  | .map entries => uptoBulkEntries entries + 1
  | .held _ => 1
def uptoBulkAll {H : Type} : List (DataW H) → Nat
  | [] => 0
  | d :: r => uptoBulk d + uptoBulkAll r
def uptoBulkEntries {H : Type} : List (Lit × DataW H) → Nat
  | [] => 0
  | x :: r => uptoBulkEntry x + uptoBulkEntries r
def uptoBulkEntry {H : Type} : Lit × DataW H → Nat
  | (.string bytes, d) => bytes.length + uptoBulk d + 1
  | (_, d) => uptoBulk d + 1
 end
def uptoSmall : (H : Type) → List (DataW H) → Bool := fun _ ds => decide (uptoBulkAll ds ≤ 1048576)
def OpenSpec.upto (s : _root_.Go.ChangeSpec) : _root_.Go.OpenSpec := { _root_.Go.OpenSpec.ofChange s with cond := some uptoSmall }

/-- 'laws.FnExactValidFree', WHERE WHAT IT READS IS OF BULK AT MOST 1048576: true; the input reads as it did. -/
def fnExactValidFreeUptoRow : OpenClaim := { program := "ytbeaopblopmpeab", sum := "85b59c8334a1fbd58d0de8dec264b2cd66b9b885baf46f12a3fc0c7e42f70ffd", func := "loop.example/g00856/laws.FnExactValidFree", spec := "fnExactValidFree", unfollowed := true, recurses := true, apart := false, narrowed := true }
def FnExactValidFreeUptoSaid : Prop := fnExactValidFreeUptoRow.holds Try.pinned (OpenSpec.upto fnExactValidFreeSpec)

/-- 'laws.FnExactFreeReduce', WHERE WHAT IT READS IS OF BULK AT MOST 1048576: true; the input reads as it did. -/
def fnExactFreeReduceUptoRow : OpenClaim := { program := "ytbeaopblopmpeab", sum := "85b59c8334a1fbd58d0de8dec264b2cd66b9b885baf46f12a3fc0c7e42f70ffd", func := "loop.example/g00856/laws.FnExactFreeReduce", spec := "fnExactFreeReduce", unfollowed := true, recurses := true, apart := false, narrowed := true }
def FnExactFreeReduceUptoSaid : Prop := fnExactFreeReduceUptoRow.holds Try.pinned (OpenSpec.upto fnExactFreeReduceSpec)

/-- 'laws.FnExactFreeInverse', WHERE WHAT IT READS IS OF BULK AT MOST 1048576: true; the input reads as it did. -/
def fnExactFreeInverseUptoRow : OpenClaim := { program := "ytbeaopblopmpeab", sum := "85b59c8334a1fbd58d0de8dec264b2cd66b9b885baf46f12a3fc0c7e42f70ffd", func := "loop.example/g00856/laws.FnExactFreeInverse", spec := "fnExactFreeInverse", unfollowed := true, recurses := true, apart := false, narrowed := true }
def FnExactFreeInverseUptoSaid : Prop := fnExactFreeInverseUptoRow.holds Try.pinned (OpenSpec.upto fnExactFreeInverseSpec)

/-- 'laws.FnExactFreeJoin', WHERE WHAT IT READS IS OF BULK AT MOST 1048576: true; the input reads as it did. -/
def fnExactFreeJoinUptoRow : OpenClaim := { program := "ytbeaopblopmpeab", sum := "85b59c8334a1fbd58d0de8dec264b2cd66b9b885baf46f12a3fc0c7e42f70ffd", func := "loop.example/g00856/laws.FnExactFreeJoin", spec := "fnExactFreeJoin", unfollowed := true, recurses := true, apart := false, narrowed := true }
def FnExactFreeJoinUptoSaid : Prop := fnExactFreeJoinUptoRow.holds Try.pinned (OpenSpec.upto fnExactFreeJoinSpec)

/-- 'laws.FnExactFreeCore', WHERE WHAT IT READS IS OF BULK AT MOST 1048576: true; the input reads as it did. -/
def fnExactFreeCoreUptoRow : OpenClaim := { program := "ytbeaopblopmpeab", sum := "85b59c8334a1fbd58d0de8dec264b2cd66b9b885baf46f12a3fc0c7e42f70ffd", func := "loop.example/g00856/laws.FnExactFreeCore", spec := "fnExactFreeCore", unfollowed := true, recurses := true, apart := false, narrowed := true }
def FnExactFreeCoreUptoSaid : Prop := fnExactFreeCoreUptoRow.holds Try.pinned (OpenSpec.upto fnExactFreeCoreSpec)

/-- 'laws.FnExactFreeText', WHERE WHAT IT READS IS OF BULK AT MOST 1048576: true; the input reads as it did. -/
def fnExactFreeTextUptoRow : OpenClaim := { program := "ytbeaopblopmpeab", sum := "85b59c8334a1fbd58d0de8dec264b2cd66b9b885baf46f12a3fc0c7e42f70ffd", func := "loop.example/g00856/laws.FnExactFreeText", spec := "fnExactFreeText", unfollowed := true, recurses := true, apart := false, narrowed := true }
def FnExactFreeTextUptoSaid : Prop := fnExactFreeTextUptoRow.holds Try.pinned (OpenSpec.upto fnExactFreeTextSpec)

/-- 'laws.FnExactReadFree', WHERE WHAT IT READS IS OF BULK AT MOST 1048576: true; the input reads as it did. -/
def fnExactReadFreeUptoRow : OpenClaim := { program := "ytbeaopblopmpeab", sum := "85b59c8334a1fbd58d0de8dec264b2cd66b9b885baf46f12a3fc0c7e42f70ffd", func := "loop.example/g00856/laws.FnExactReadFree", spec := "fnExactReadFree", unfollowed := true, recurses := true, apart := false, narrowed := true }
def FnExactReadFreeUptoSaid : Prop := fnExactReadFreeUptoRow.holds Try.pinned (OpenSpec.upto fnExactReadFreeSpec)

/-- 'laws.FnExactSplitWords', WHERE WHAT IT READS IS OF BULK AT MOST 1048576: true; the input reads as it did. -/
def fnExactSplitWordsUptoRow : OpenClaim := { program := "ytbeaopblopmpeab", sum := "85b59c8334a1fbd58d0de8dec264b2cd66b9b885baf46f12a3fc0c7e42f70ffd", func := "loop.example/g00856/laws.FnExactSplitWords", spec := "fnExactSplitWords", unfollowed := true, recurses := true, apart := false, narrowed := true }
def FnExactSplitWordsUptoSaid : Prop := fnExactSplitWordsUptoRow.holds Try.pinned (OpenSpec.upto fnExactSplitWordsSpec)

/-- 'laws.FnExactSameNormal', WHERE WHAT IT READS IS OF BULK AT MOST 1048576: true; the input reads as it did. -/
def fnExactSameNormalUptoRow : OpenClaim := { program := "ytbeaopblopmpeab", sum := "85b59c8334a1fbd58d0de8dec264b2cd66b9b885baf46f12a3fc0c7e42f70ffd", func := "loop.example/g00856/laws.FnExactSameNormal", spec := "fnExactSameNormal", unfollowed := true, recurses := true, apart := false, narrowed := true }
def FnExactSameNormalUptoSaid : Prop := fnExactSameNormalUptoRow.holds Try.pinned (OpenSpec.upto fnExactSameNormalSpec)

/-- 'laws.FnExactValidNormal', WHERE WHAT IT READS IS OF BULK AT MOST 1048576: true; the input reads as it did. -/
def fnExactValidNormalUptoRow : OpenClaim := { program := "ytbeaopblopmpeab", sum := "85b59c8334a1fbd58d0de8dec264b2cd66b9b885baf46f12a3fc0c7e42f70ffd", func := "loop.example/g00856/laws.FnExactValidNormal", spec := "fnExactValidNormal", apart := false, narrowed := true }
def FnExactValidNormalUptoSaid : Prop := fnExactValidNormalUptoRow.holds Try.pinned (OpenSpec.upto fnExactValidNormalSpec)

end Rows
end Go.Proofs.Ytbeaopblopmpeab
