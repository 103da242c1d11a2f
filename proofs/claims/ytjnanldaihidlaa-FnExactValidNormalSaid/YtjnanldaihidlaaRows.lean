/-
  No cell of these rows narrows 'for every input' (looked for: loops, veiled, ifaces, maps, wideKeys, modest, calm, conditions, laid).
  DERIVED. THE GIVEN ROWS OF THIS SEAT. 10 by the template 'for every input the law returns true; each argument reads behind the call as it read before'; 0 by the template 'total and deterministic' (their statements: YtjnanldaihidlaaTotals.lean).
  GIVEN WITH THE SEED: the statements are not yours to turn. If you find one false, say at which input.
  Laid BY PROGRAM, IN A SANDBOX (cutbox-rows.mjs): the forced cells as the released guide's own fill.sh prints them over the translation e47f956af43b8898… (all of the seat's roots in one cut). By AI agents, Wed Nov 11 2026. No macro, syntax, notation, axiom, sorry.
-/
import Derived.Test.YtjnanldaihidlaaChecked
import GoSem.Claim
import GoSem.ClaimJoined
import GoSem.ClaimMapViews
import Derived.JoinedTies
import Derived.KernelRfl
namespace Go.Proofs.Ytjnanldaihidlaa
/- THE CELL 'sum', in the pinned program and in every row, IS THE sha256 OF THE DUMP (.gsa) THAT YtjnanldaihidlaaProg.lean LOADS. Nothing in Lean hashes anything: it is a label: what it is worth is what the hold of that sum in a sandbox is worth. -/
noncomputable def Try.pinned : Pinned := { name := "ytjnanldaihidlaa", sum := "e47f956af43b8898e4ca851475e8712bb1d782bc270b34166cd35000d250722d", checked := Try.checked }
namespace Rows
def none {H : Type} : Left H := { results := [], args := [] }

/-- 'laws.FnFree': WHATEVER THE INPUT: true; the input reads as it did. -/
def fnFreeSpec : ChangeSpec := { name := "fnFree", fn := fun _ => fun
  | [d] => { results := [.lit (.bool true)], args := [d] }
  | _ => none }
def fnFreeRow : OpenClaim := { program := "ytjnanldaihidlaa", sum := "e47f956af43b8898e4ca851475e8712bb1d782bc270b34166cd35000d250722d", func := "loop.example/g00856/laws.FnFree", spec := "fnFree", unfollowed := true, recurses := true, apart := false }
def FnFreeSaid : Prop := fnFreeRow.holds Try.pinned (OpenSpec.ofChange fnFreeSpec)

/-- ITS FALSE NEIGHBOUR: 'it returns false'. Refute it at one input. -/
def fnFreeWrong : ChangeSpec := { name := "fnFree", fn := fun _ => fun
  | [d] => { results := [.lit (.bool false)], args := [d] }
  | _ => none }
def FnFreeWrongFalsely : Prop := fnFreeRow.holds Try.pinned (OpenSpec.ofChange fnFreeWrong)

/-- 'laws.FnPermutations': WHATEVER THE INPUT: true; the input reads as it did. -/
def fnPermutationsSpec : ChangeSpec := { name := "fnPermutations", fn := fun _ => fun
  | [d] => { results := [.lit (.bool true)], args := [d] }
  | _ => none }
def fnPermutationsRow : OpenClaim := { program := "ytjnanldaihidlaa", sum := "e47f956af43b8898e4ca851475e8712bb1d782bc270b34166cd35000d250722d", func := "loop.example/g00856/laws.FnPermutations", spec := "fnPermutations", apart := false }
def FnPermutationsSaid : Prop := fnPermutationsRow.holds Try.pinned (OpenSpec.ofChange fnPermutationsSpec)

/-- ITS FALSE NEIGHBOUR: 'it returns false'. Refute it at one input. -/
def fnPermutationsWrong : ChangeSpec := { name := "fnPermutations", fn := fun _ => fun
  | [d] => { results := [.lit (.bool false)], args := [d] }
  | _ => none }
def FnPermutationsWrongFalsely : Prop := fnPermutationsRow.holds Try.pinned (OpenSpec.ofChange fnPermutationsWrong)

/-- 'laws.FnExactIsHandle': WHATEVER THE INPUT: true; the input reads as it did. -/
def fnExactIsHandleSpec : ChangeSpec := { name := "fnExactIsHandle", fn := fun _ => fun
  | [d1, d2] => { results := [.lit (.bool true)], args := [d1, d2] }
  | _ => none }
def fnExactIsHandleRow : OpenClaim := { program := "ytjnanldaihidlaa", sum := "e47f956af43b8898e4ca851475e8712bb1d782bc270b34166cd35000d250722d", func := "loop.example/g00856/laws.FnExactIsHandle", spec := "fnExactIsHandle", unfollowed := true, recurses := true, apart := false }
def FnExactIsHandleSaid : Prop := fnExactIsHandleRow.holds Try.pinned (OpenSpec.ofChange fnExactIsHandleSpec)

/-- ITS FALSE NEIGHBOUR: 'it returns false'. Refute it at one input. -/
def fnExactIsHandleWrong : ChangeSpec := { name := "fnExactIsHandle", fn := fun _ => fun
  | [d1, d2] => { results := [.lit (.bool false)], args := [d1, d2] }
  | _ => none }
def FnExactIsHandleWrongFalsely : Prop := fnExactIsHandleRow.holds Try.pinned (OpenSpec.ofChange fnExactIsHandleWrong)

/-- 'laws.FnExactDoubleBraid': WHATEVER THE INPUT: true; the input reads as it did. -/
def fnExactDoubleBraidSpec : ChangeSpec := { name := "fnExactDoubleBraid", fn := fun _ => fun
  | [d1, d2] => { results := [.lit (.bool true)], args := [d1, d2] }
  | _ => none }
def fnExactDoubleBraidRow : OpenClaim := { program := "ytjnanldaihidlaa", sum := "e47f956af43b8898e4ca851475e8712bb1d782bc270b34166cd35000d250722d", func := "loop.example/g00856/laws.FnExactDoubleBraid", spec := "fnExactDoubleBraid", unfollowed := true, recurses := true, apart := false }
def FnExactDoubleBraidSaid : Prop := fnExactDoubleBraidRow.holds Try.pinned (OpenSpec.ofChange fnExactDoubleBraidSpec)

/-- ITS FALSE NEIGHBOUR: 'it returns false'. Refute it at one input. -/
def fnExactDoubleBraidWrong : ChangeSpec := { name := "fnExactDoubleBraid", fn := fun _ => fun
  | [d1, d2] => { results := [.lit (.bool false)], args := [d1, d2] }
  | _ => none }
def FnExactDoubleBraidWrongFalsely : Prop := fnExactDoubleBraidRow.holds Try.pinned (OpenSpec.ofChange fnExactDoubleBraidWrong)

/-- 'laws.FnExactSplitWords': WHATEVER THE INPUT: true; the input reads as it did. -/
def fnExactSplitWordsSpec : ChangeSpec := { name := "fnExactSplitWords", fn := fun _ => fun
  | [d] => { results := [.lit (.bool true)], args := [d] }
  | _ => none }
def fnExactSplitWordsRow : OpenClaim := { program := "ytjnanldaihidlaa", sum := "e47f956af43b8898e4ca851475e8712bb1d782bc270b34166cd35000d250722d", func := "loop.example/g00856/laws.FnExactSplitWords", spec := "fnExactSplitWords", unfollowed := true, recurses := true, apart := false }
def FnExactSplitWordsSaid : Prop := fnExactSplitWordsRow.holds Try.pinned (OpenSpec.ofChange fnExactSplitWordsSpec)

/-- ITS FALSE NEIGHBOUR: 'it returns false'. Refute it at one input. -/
def fnExactSplitWordsWrong : ChangeSpec := { name := "fnExactSplitWords", fn := fun _ => fun
  | [d] => { results := [.lit (.bool false)], args := [d] }
  | _ => none }
def FnExactSplitWordsWrongFalsely : Prop := fnExactSplitWordsRow.holds Try.pinned (OpenSpec.ofChange fnExactSplitWordsWrong)

/-- 'laws.FnExactSameNormal': WHATEVER THE INPUT: true; the input reads as it did. -/
def fnExactSameNormalSpec : ChangeSpec := { name := "fnExactSameNormal", fn := fun _ => fun
  | [d1, d2] => { results := [.lit (.bool true)], args := [d1, d2] }
  | _ => none }
def fnExactSameNormalRow : OpenClaim := { program := "ytjnanldaihidlaa", sum := "e47f956af43b8898e4ca851475e8712bb1d782bc270b34166cd35000d250722d", func := "loop.example/g00856/laws.FnExactSameNormal", spec := "fnExactSameNormal", unfollowed := true, recurses := true, apart := false }
def FnExactSameNormalSaid : Prop := fnExactSameNormalRow.holds Try.pinned (OpenSpec.ofChange fnExactSameNormalSpec)

/-- ITS FALSE NEIGHBOUR: 'it returns false'. Refute it at one input. -/
def fnExactSameNormalWrong : ChangeSpec := { name := "fnExactSameNormal", fn := fun _ => fun
  | [d1, d2] => { results := [.lit (.bool false)], args := [d1, d2] }
  | _ => none }
def FnExactSameNormalWrongFalsely : Prop := fnExactSameNormalRow.holds Try.pinned (OpenSpec.ofChange fnExactSameNormalWrong)

/-- 'laws.FnExactValidNormal': WHATEVER THE INPUT: true; the input reads as it did. -/
def fnExactValidNormalSpec : ChangeSpec := { name := "fnExactValidNormal", fn := fun _ => fun
  | [d] => { results := [.lit (.bool true)], args := [d] }
  | _ => none }
def fnExactValidNormalRow : OpenClaim := { program := "ytjnanldaihidlaa", sum := "e47f956af43b8898e4ca851475e8712bb1d782bc270b34166cd35000d250722d", func := "loop.example/g00856/laws.FnExactValidNormal", spec := "fnExactValidNormal", apart := false }
def FnExactValidNormalSaid : Prop := fnExactValidNormalRow.holds Try.pinned (OpenSpec.ofChange fnExactValidNormalSpec)

/-- ITS FALSE NEIGHBOUR: 'it returns false'. Refute it at one input. -/
def fnExactValidNormalWrong : ChangeSpec := { name := "fnExactValidNormal", fn := fun _ => fun
  | [d] => { results := [.lit (.bool false)], args := [d] }
  | _ => none }
def FnExactValidNormalWrongFalsely : Prop := fnExactValidNormalRow.holds Try.pinned (OpenSpec.ofChange fnExactValidNormalWrong)

/-- 'laws.FnExactApplyAction': WHATEVER THE INPUT: true; the input reads as it did. -/
def fnExactApplyActionSpec : ChangeSpec := { name := "fnExactApplyAction", fn := fun _ => fun
  | [d1, d2] => { results := [.lit (.bool true)], args := [d1, d2] }
  | _ => none }
def fnExactApplyActionRow : OpenClaim := { program := "ytjnanldaihidlaa", sum := "e47f956af43b8898e4ca851475e8712bb1d782bc270b34166cd35000d250722d", func := "loop.example/g00856/laws.FnExactApplyAction", spec := "fnExactApplyAction", unfollowed := true, recurses := true, apart := false }
def FnExactApplyActionSaid : Prop := fnExactApplyActionRow.holds Try.pinned (OpenSpec.ofChange fnExactApplyActionSpec)

/-- ITS FALSE NEIGHBOUR: 'it returns false'. Refute it at one input. -/
def fnExactApplyActionWrong : ChangeSpec := { name := "fnExactApplyAction", fn := fun _ => fun
  | [d1, d2] => { results := [.lit (.bool false)], args := [d1, d2] }
  | _ => none }
def FnExactApplyActionWrongFalsely : Prop := fnExactApplyActionRow.holds Try.pinned (OpenSpec.ofChange fnExactApplyActionWrong)

/-- 'laws.FnExactIsAction': WHATEVER THE INPUT: true; the input reads as it did. -/
def fnExactIsActionSpec : ChangeSpec := { name := "fnExactIsAction", fn := fun _ => fun
  | [d] => { results := [.lit (.bool true)], args := [d] }
  | _ => none }
def fnExactIsActionRow : OpenClaim := { program := "ytjnanldaihidlaa", sum := "e47f956af43b8898e4ca851475e8712bb1d782bc270b34166cd35000d250722d", func := "loop.example/g00856/laws.FnExactIsAction", spec := "fnExactIsAction", unfollowed := true, recurses := true, apart := false }
def FnExactIsActionSaid : Prop := fnExactIsActionRow.holds Try.pinned (OpenSpec.ofChange fnExactIsActionSpec)

/-- ITS FALSE NEIGHBOUR: 'it returns false'. Refute it at one input. -/
def fnExactIsActionWrong : ChangeSpec := { name := "fnExactIsAction", fn := fun _ => fun
  | [d] => { results := [.lit (.bool false)], args := [d] }
  | _ => none }
def FnExactIsActionWrongFalsely : Prop := fnExactIsActionRow.holds Try.pinned (OpenSpec.ofChange fnExactIsActionWrong)

/-- 'laws.FnExactActionPermutation': WHATEVER THE INPUT: true; the input reads as it did. -/
def fnExactActionPermutationSpec : ChangeSpec := { name := "fnExactActionPermutation", fn := fun _ => fun
  | [d] => { results := [.lit (.bool true)], args := [d] }
  | _ => none }
def fnExactActionPermutationRow : OpenClaim := { program := "ytjnanldaihidlaa", sum := "e47f956af43b8898e4ca851475e8712bb1d782bc270b34166cd35000d250722d", func := "loop.example/g00856/laws.FnExactActionPermutation", spec := "fnExactActionPermutation", unfollowed := true, recurses := true, apart := false }
def FnExactActionPermutationSaid : Prop := fnExactActionPermutationRow.holds Try.pinned (OpenSpec.ofChange fnExactActionPermutationSpec)

/-- ITS FALSE NEIGHBOUR: 'it returns false'. Refute it at one input. -/
def fnExactActionPermutationWrong : ChangeSpec := { name := "fnExactActionPermutation", fn := fun _ => fun
  | [d] => { results := [.lit (.bool false)], args := [d] }
  | _ => none }
def FnExactActionPermutationWrongFalsely : Prop := fnExactActionPermutationRow.holds Try.pinned (OpenSpec.ofChange fnExactActionPermutationWrong)

/- THE SECOND FORM. 'bulk': how many values and letters a reading holds, each counted each time it is reached (what is shared counts as often as it is met; a slice's spare places count too). A statement '..UptoSaid' is the law's where the arguments, and the package variables that the reading takes, are together of bulk at most 1048576: NARROWER than '..Said'. Prove '..Said' where nothing that the law and all that it calls make is longer than what came in: it says more and counts as full. Else prove '..UptoSaid'. A law counts once. -/
mutual
def uptoBulk {H : Type} : DataW H → Nat
  | .lit (.string bytes) => bytes.length + 1
  | .lit _ => 1
  | .nil => 1
  | .ptr d => uptoBulk d + 1
  | .slice elems spare => uptoBulkAll elems + uptoBulkAll spare + 1
  | .agg parts => uptoBulkAll parts + 1
  | .iface _ d => uptoBulk d + 1
  | .map entries => uptoBulkEntries entries + 1
  | .held _ => 1
def uptoBulkAll {H : Type} : List (DataW H) → Nat
  | [] => 0
  | d :: r => uptoBulk d + uptoBulkAll r
def uptoBulkEntries {H : Type} : List (Lit × DataW H) → Nat
  | [] => 0
  | x :: r => uptoBulkEntry x + uptoBulkEntries r
def uptoBulkEntry {H : Type} : Lit × DataW H → Nat
  | (.string bytes, d) => bytes.length + uptoBulk d + 1
  | (_, d) => uptoBulk d + 1
 end
def uptoSmall : (H : Type) → List (DataW H) → Bool := fun _ ds => decide (uptoBulkAll ds ≤ 1048576)
def OpenSpec.upto (s : _root_.Go.ChangeSpec) : _root_.Go.OpenSpec := { _root_.Go.OpenSpec.ofChange s with cond := some uptoSmall }

/-- 'laws.FnFree', WHERE WHAT IT READS IS OF BULK AT MOST 1048576: true; the input reads as it did. -/
def fnFreeUptoRow : OpenClaim := { program := "ytjnanldaihidlaa", sum := "e47f956af43b8898e4ca851475e8712bb1d782bc270b34166cd35000d250722d", func := "loop.example/g00856/laws.FnFree", spec := "fnFree", unfollowed := true, recurses := true, apart := false, narrowed := true }
def FnFreeUptoSaid : Prop := fnFreeUptoRow.holds Try.pinned (OpenSpec.upto fnFreeSpec)

/-- 'laws.FnPermutations', WHERE WHAT IT READS IS OF BULK AT MOST 1048576: true; the input reads as it did. -/
def fnPermutationsUptoRow : OpenClaim := { program := "ytjnanldaihidlaa", sum := "e47f956af43b8898e4ca851475e8712bb1d782bc270b34166cd35000d250722d", func := "loop.example/g00856/laws.FnPermutations", spec := "fnPermutations", apart := false, narrowed := true }
def FnPermutationsUptoSaid : Prop := fnPermutationsUptoRow.holds Try.pinned (OpenSpec.upto fnPermutationsSpec)

/-- 'laws.FnExactIsHandle', WHERE WHAT IT READS IS OF BULK AT MOST 1048576: true; the input reads as it did. -/
def fnExactIsHandleUptoRow : OpenClaim := { program := "ytjnanldaihidlaa", sum := "e47f956af43b8898e4ca851475e8712bb1d782bc270b34166cd35000d250722d", func := "loop.example/g00856/laws.FnExactIsHandle", spec := "fnExactIsHandle", unfollowed := true, recurses := true, apart := false, narrowed := true }
def FnExactIsHandleUptoSaid : Prop := fnExactIsHandleUptoRow.holds Try.pinned (OpenSpec.upto fnExactIsHandleSpec)

/-- 'laws.FnExactDoubleBraid', WHERE WHAT IT READS IS OF BULK AT MOST 1048576: true; the input reads as it did. -/
def fnExactDoubleBraidUptoRow : OpenClaim := { program := "ytjnanldaihidlaa", sum := "e47f956af43b8898e4ca851475e8712bb1d782bc270b34166cd35000d250722d", func := "loop.example/g00856/laws.FnExactDoubleBraid", spec := "fnExactDoubleBraid", unfollowed := true, recurses := true, apart := false, narrowed := true }
def FnExactDoubleBraidUptoSaid : Prop := fnExactDoubleBraidUptoRow.holds Try.pinned (OpenSpec.upto fnExactDoubleBraidSpec)

/-- 'laws.FnExactSplitWords', WHERE WHAT IT READS IS OF BULK AT MOST 1048576: true; the input reads as it did. -/
def fnExactSplitWordsUptoRow : OpenClaim := { program := "ytjnanldaihidlaa", sum := "e47f956af43b8898e4ca851475e8712bb1d782bc270b34166cd35000d250722d", func := "loop.example/g00856/laws.FnExactSplitWords", spec := "fnExactSplitWords", unfollowed := true, recurses := true, apart := false, narrowed := true }
def FnExactSplitWordsUptoSaid : Prop := fnExactSplitWordsUptoRow.holds Try.pinned (OpenSpec.upto fnExactSplitWordsSpec)

/-- 'laws.FnExactSameNormal', WHERE WHAT IT READS IS OF BULK AT MOST 1048576: true; the input reads as it did. -/
def fnExactSameNormalUptoRow : OpenClaim := { program := "ytjnanldaihidlaa", sum := "e47f956af43b8898e4ca851475e8712bb1d782bc270b34166cd35000d250722d", func := "loop.example/g00856/laws.FnExactSameNormal", spec := "fnExactSameNormal", unfollowed := true, recurses := true, apart := false, narrowed := true }
def FnExactSameNormalUptoSaid : Prop := fnExactSameNormalUptoRow.holds Try.pinned (OpenSpec.upto fnExactSameNormalSpec)

/-- 'laws.FnExactValidNormal', WHERE WHAT IT READS IS OF BULK AT MOST 1048576: true; the input reads as it did. -/
def fnExactValidNormalUptoRow : OpenClaim := { program := "ytjnanldaihidlaa", sum := "e47f956af43b8898e4ca851475e8712bb1d782bc270b34166cd35000d250722d", func := "loop.example/g00856/laws.FnExactValidNormal", spec := "fnExactValidNormal", apart := false, narrowed := true }
def FnExactValidNormalUptoSaid : Prop := fnExactValidNormalUptoRow.holds Try.pinned (OpenSpec.upto fnExactValidNormalSpec)

/-- 'laws.FnExactApplyAction', WHERE WHAT IT READS IS OF BULK AT MOST 1048576: true; the input reads as it did. -/
def fnExactApplyActionUptoRow : OpenClaim := { program := "ytjnanldaihidlaa", sum := "e47f956af43b8898e4ca851475e8712bb1d782bc270b34166cd35000d250722d", func := "loop.example/g00856/laws.FnExactApplyAction", spec := "fnExactApplyAction", unfollowed := true, recurses := true, apart := false, narrowed := true }
def FnExactApplyActionUptoSaid : Prop := fnExactApplyActionUptoRow.holds Try.pinned (OpenSpec.upto fnExactApplyActionSpec)

/-- 'laws.FnExactIsAction', WHERE WHAT IT READS IS OF BULK AT MOST 1048576: true; the input reads as it did. -/
def fnExactIsActionUptoRow : OpenClaim := { program := "ytjnanldaihidlaa", sum := "e47f956af43b8898e4ca851475e8712bb1d782bc270b34166cd35000d250722d", func := "loop.example/g00856/laws.FnExactIsAction", spec := "fnExactIsAction", unfollowed := true, recurses := true, apart := false, narrowed := true }
def FnExactIsActionUptoSaid : Prop := fnExactIsActionUptoRow.holds Try.pinned (OpenSpec.upto fnExactIsActionSpec)

/-- 'laws.FnExactActionPermutation', WHERE WHAT IT READS IS OF BULK AT MOST 1048576: true; the input reads as it did. -/
def fnExactActionPermutationUptoRow : OpenClaim := { program := "ytjnanldaihidlaa", sum := "e47f956af43b8898e4ca851475e8712bb1d782bc270b34166cd35000d250722d", func := "loop.example/g00856/laws.FnExactActionPermutation", spec := "fnExactActionPermutation", unfollowed := true, recurses := true, apart := false, narrowed := true }
def FnExactActionPermutationUptoSaid : Prop := fnExactActionPermutationUptoRow.holds Try.pinned (OpenSpec.upto fnExactActionPermutationSpec)

end Rows
end Go.Proofs.Ytjnanldaihidlaa
