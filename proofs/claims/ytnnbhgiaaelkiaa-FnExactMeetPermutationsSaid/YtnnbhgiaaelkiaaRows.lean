/-
  No cell of these rows narrows 'for every input' (looked for: loops, veiled, ifaces, maps, wideKeys, modest, calm, conditions, laid).
  DERIVED. THE GIVEN ROWS OF THIS SEAT. 12 by the template 'for every input the law returns true; each argument reads behind the call as it read before'; 0 by the template 'total and deterministic' (their statements: YtnnbhgiaaelkiaaTotals.lean).
  GIVEN WITH THE SEED: the statements are not yours to turn. If you find one false, say at which input.
  Laid BY PROGRAM, IN A SANDBOX (cutbox-rows.mjs): the forced cells as the released guide's own fill.sh prints them over the translation 7ad70c72ba92d4d4… (all of the seat's roots in one cut). By AI agents, Wed Nov 11 2026. No macro, syntax, notation, axiom, sorry.
-/
import Derived.Test.YtnnbhgiaaelkiaaChecked
import GoSem.Claim
import GoSem.ClaimJoined
import GoSem.ClaimMapViews
import Derived.JoinedTies
import Derived.KernelRfl
namespace Go.Proofs.Ytnnbhgiaaelkiaa
/- THE CELL 'sum', in the pinned program and in every row, IS THE sha256 OF THE DUMP (.gsa) THAT YtnnbhgiaaelkiaaProg.lean LOADS. Nothing in Lean hashes anything: it is a label: what it is worth is what the hold of that sum in a sandbox is worth. -/
noncomputable def Try.pinned : Pinned := { name := "ytnnbhgiaaelkiaa", sum := "7ad70c72ba92d4d411038f20c4ea0c366f68231498217a80c9cef0efb9a70ec0", checked := Try.checked }
namespace Rows
def none {H : Type} : Left H := { results := [], args := [] }

/-- 'laws.FnExactComposePermutations': WHATEVER THE INPUT: true; the input reads as it did. -/
def fnExactComposePermutationsSpec : ChangeSpec := { name := "fnExactComposePermutations", fn := fun _ => fun
  | [d1, d2] => { results := [.lit (.bool true)], args := [d1, d2] }
  | _ => none }
def fnExactComposePermutationsRow : OpenClaim := { program := "ytnnbhgiaaelkiaa", sum := "7ad70c72ba92d4d411038f20c4ea0c366f68231498217a80c9cef0efb9a70ec0", func := "loop.example/g00856/laws.FnExactComposePermutations", spec := "fnExactComposePermutations", apart := false }
def FnExactComposePermutationsSaid : Prop := fnExactComposePermutationsRow.holds Try.pinned (OpenSpec.ofChange fnExactComposePermutationsSpec)

/-- ITS FALSE NEIGHBOUR: 'it returns false'. Refute it at one input. -/
def fnExactComposePermutationsWrong : ChangeSpec := { name := "fnExactComposePermutations", fn := fun _ => fun
  | [d1, d2] => { results := [.lit (.bool false)], args := [d1, d2] }
  | _ => none }
def FnExactComposePermutationsWrongFalsely : Prop := fnExactComposePermutationsRow.holds Try.pinned (OpenSpec.ofChange fnExactComposePermutationsWrong)

/-- 'laws.FnExactJoinPermutations': WHATEVER THE INPUT: true; the input reads as it did. -/
def fnExactJoinPermutationsSpec : ChangeSpec := { name := "fnExactJoinPermutations", fn := fun _ => fun
  | [d1, d2] => { results := [.lit (.bool true)], args := [d1, d2] }
  | _ => none }
def fnExactJoinPermutationsRow : OpenClaim := { program := "ytnnbhgiaaelkiaa", sum := "7ad70c72ba92d4d411038f20c4ea0c366f68231498217a80c9cef0efb9a70ec0", func := "loop.example/g00856/laws.FnExactJoinPermutations", spec := "fnExactJoinPermutations", unfollowed := true, recurses := true, apart := false }
def FnExactJoinPermutationsSaid : Prop := fnExactJoinPermutationsRow.holds Try.pinned (OpenSpec.ofChange fnExactJoinPermutationsSpec)

/-- ITS FALSE NEIGHBOUR: 'it returns false'. Refute it at one input. -/
def fnExactJoinPermutationsWrong : ChangeSpec := { name := "fnExactJoinPermutations", fn := fun _ => fun
  | [d1, d2] => { results := [.lit (.bool false)], args := [d1, d2] }
  | _ => none }
def FnExactJoinPermutationsWrongFalsely : Prop := fnExactJoinPermutationsRow.holds Try.pinned (OpenSpec.ofChange fnExactJoinPermutationsWrong)

/-- 'laws.FnExactMeetPermutations': WHATEVER THE INPUT: true; the input reads as it did. -/
def fnExactMeetPermutationsSpec : ChangeSpec := { name := "fnExactMeetPermutations", fn := fun _ => fun
  | [d1, d2] => { results := [.lit (.bool true)], args := [d1, d2] }
  | _ => none }
def fnExactMeetPermutationsRow : OpenClaim := { program := "ytnnbhgiaaelkiaa", sum := "7ad70c72ba92d4d411038f20c4ea0c366f68231498217a80c9cef0efb9a70ec0", func := "loop.example/g00856/laws.FnExactMeetPermutations", spec := "fnExactMeetPermutations", unfollowed := true, recurses := true, apart := false }
def FnExactMeetPermutationsSaid : Prop := fnExactMeetPermutationsRow.holds Try.pinned (OpenSpec.ofChange fnExactMeetPermutationsSpec)

/-- ITS FALSE NEIGHBOUR: 'it returns false'. Refute it at one input. -/
def fnExactMeetPermutationsWrong : ChangeSpec := { name := "fnExactMeetPermutations", fn := fun _ => fun
  | [d1, d2] => { results := [.lit (.bool false)], args := [d1, d2] }
  | _ => none }
def FnExactMeetPermutationsWrongFalsely : Prop := fnExactMeetPermutationsRow.holds Try.pinned (OpenSpec.ofChange fnExactMeetPermutationsWrong)

/-- 'laws.FnExactHalfTwist': WHATEVER THE INPUT: true; the input reads as it did. -/
def fnExactHalfTwistSpec : ChangeSpec := { name := "fnExactHalfTwist", fn := fun _ => fun
  | [d] => { results := [.lit (.bool true)], args := [d] }
  | _ => none }
def fnExactHalfTwistRow : OpenClaim := { program := "ytnnbhgiaaelkiaa", sum := "7ad70c72ba92d4d411038f20c4ea0c366f68231498217a80c9cef0efb9a70ec0", func := "loop.example/g00856/laws.FnExactHalfTwist", spec := "fnExactHalfTwist", apart := false }
def FnExactHalfTwistSaid : Prop := fnExactHalfTwistRow.holds Try.pinned (OpenSpec.ofChange fnExactHalfTwistSpec)

/-- ITS FALSE NEIGHBOUR: 'it returns false'. Refute it at one input. -/
def fnExactHalfTwistWrong : ChangeSpec := { name := "fnExactHalfTwist", fn := fun _ => fun
  | [d] => { results := [.lit (.bool false)], args := [d] }
  | _ => none }
def FnExactHalfTwistWrongFalsely : Prop := fnExactHalfTwistRow.holds Try.pinned (OpenSpec.ofChange fnExactHalfTwistWrong)

/-- 'laws.FnExactStartLetters': WHATEVER THE INPUT: true; the input reads as it did. -/
def fnExactStartLettersSpec : ChangeSpec := { name := "fnExactStartLetters", fn := fun _ => fun
  | [d] => { results := [.lit (.bool true)], args := [d] }
  | _ => none }
def fnExactStartLettersRow : OpenClaim := { program := "ytnnbhgiaaelkiaa", sum := "7ad70c72ba92d4d411038f20c4ea0c366f68231498217a80c9cef0efb9a70ec0", func := "loop.example/g00856/laws.FnExactStartLetters", spec := "fnExactStartLetters", apart := false }
def FnExactStartLettersSaid : Prop := fnExactStartLettersRow.holds Try.pinned (OpenSpec.ofChange fnExactStartLettersSpec)

/-- ITS FALSE NEIGHBOUR: 'it returns false'. Refute it at one input. -/
def fnExactStartLettersWrong : ChangeSpec := { name := "fnExactStartLetters", fn := fun _ => fun
  | [d] => { results := [.lit (.bool false)], args := [d] }
  | _ => none }
def FnExactStartLettersWrongFalsely : Prop := fnExactStartLettersRow.holds Try.pinned (OpenSpec.ofChange fnExactStartLettersWrong)

/-- 'laws.FnExactFinishLetters': WHATEVER THE INPUT: true; the input reads as it did. -/
def fnExactFinishLettersSpec : ChangeSpec := { name := "fnExactFinishLetters", fn := fun _ => fun
  | [d] => { results := [.lit (.bool true)], args := [d] }
  | _ => none }
def fnExactFinishLettersRow : OpenClaim := { program := "ytnnbhgiaaelkiaa", sum := "7ad70c72ba92d4d411038f20c4ea0c366f68231498217a80c9cef0efb9a70ec0", func := "loop.example/g00856/laws.FnExactFinishLetters", spec := "fnExactFinishLetters", apart := false }
def FnExactFinishLettersSaid : Prop := fnExactFinishLettersRow.holds Try.pinned (OpenSpec.ofChange fnExactFinishLettersSpec)

/-- ITS FALSE NEIGHBOUR: 'it returns false'. Refute it at one input. -/
def fnExactFinishLettersWrong : ChangeSpec := { name := "fnExactFinishLetters", fn := fun _ => fun
  | [d] => { results := [.lit (.bool false)], args := [d] }
  | _ => none }
def FnExactFinishLettersWrongFalsely : Prop := fnExactFinishLettersRow.holds Try.pinned (OpenSpec.ofChange fnExactFinishLettersWrong)

/-- 'laws.FnExactFlipPermutation': WHATEVER THE INPUT: true; the input reads as it did. -/
def fnExactFlipPermutationSpec : ChangeSpec := { name := "fnExactFlipPermutation", fn := fun _ => fun
  | [d] => { results := [.lit (.bool true)], args := [d] }
  | _ => none }
def fnExactFlipPermutationRow : OpenClaim := { program := "ytnnbhgiaaelkiaa", sum := "7ad70c72ba92d4d411038f20c4ea0c366f68231498217a80c9cef0efb9a70ec0", func := "loop.example/g00856/laws.FnExactFlipPermutation", spec := "fnExactFlipPermutation", apart := false }
def FnExactFlipPermutationSaid : Prop := fnExactFlipPermutationRow.holds Try.pinned (OpenSpec.ofChange fnExactFlipPermutationSpec)

/-- ITS FALSE NEIGHBOUR: 'it returns false'. Refute it at one input. -/
def fnExactFlipPermutationWrong : ChangeSpec := { name := "fnExactFlipPermutation", fn := fun _ => fun
  | [d] => { results := [.lit (.bool false)], args := [d] }
  | _ => none }
def FnExactFlipPermutationWrongFalsely : Prop := fnExactFlipPermutationRow.holds Try.pinned (OpenSpec.ofChange fnExactFlipPermutationWrong)

/-- 'laws.FnExactLeftWeighted': WHATEVER THE INPUT: true; the input reads as it did. -/
def fnExactLeftWeightedSpec : ChangeSpec := { name := "fnExactLeftWeighted", fn := fun _ => fun
  | [d1, d2] => { results := [.lit (.bool true)], args := [d1, d2] }
  | _ => none }
def fnExactLeftWeightedRow : OpenClaim := { program := "ytnnbhgiaaelkiaa", sum := "7ad70c72ba92d4d411038f20c4ea0c366f68231498217a80c9cef0efb9a70ec0", func := "loop.example/g00856/laws.FnExactLeftWeighted", spec := "fnExactLeftWeighted", apart := false }
def FnExactLeftWeightedSaid : Prop := fnExactLeftWeightedRow.holds Try.pinned (OpenSpec.ofChange fnExactLeftWeightedSpec)

/-- ITS FALSE NEIGHBOUR: 'it returns false'. Refute it at one input. -/
def fnExactLeftWeightedWrong : ChangeSpec := { name := "fnExactLeftWeighted", fn := fun _ => fun
  | [d1, d2] => { results := [.lit (.bool false)], args := [d1, d2] }
  | _ => none }
def FnExactLeftWeightedWrongFalsely : Prop := fnExactLeftWeightedRow.holds Try.pinned (OpenSpec.ofChange fnExactLeftWeightedWrong)

/-- 'laws.FnExactPermutationBraid': WHATEVER THE INPUT: true; the input reads as it did. -/
def fnExactPermutationBraidSpec : ChangeSpec := { name := "fnExactPermutationBraid", fn := fun _ => fun
  | [d] => { results := [.lit (.bool true)], args := [d] }
  | _ => none }
def fnExactPermutationBraidRow : OpenClaim := { program := "ytnnbhgiaaelkiaa", sum := "7ad70c72ba92d4d411038f20c4ea0c366f68231498217a80c9cef0efb9a70ec0", func := "loop.example/g00856/laws.FnExactPermutationBraid", spec := "fnExactPermutationBraid", apart := false }
def FnExactPermutationBraidSaid : Prop := fnExactPermutationBraidRow.holds Try.pinned (OpenSpec.ofChange fnExactPermutationBraidSpec)

/-- ITS FALSE NEIGHBOUR: 'it returns false'. Refute it at one input. -/
def fnExactPermutationBraidWrong : ChangeSpec := { name := "fnExactPermutationBraid", fn := fun _ => fun
  | [d] => { results := [.lit (.bool false)], args := [d] }
  | _ => none }
def FnExactPermutationBraidWrongFalsely : Prop := fnExactPermutationBraidRow.holds Try.pinned (OpenSpec.ofChange fnExactPermutationBraidWrong)

/-- 'laws.FnExactSameNormal': WHATEVER THE INPUT: true; the input reads as it did. -/
def fnExactSameNormalSpec : ChangeSpec := { name := "fnExactSameNormal", fn := fun _ => fun
  | [d1, d2] => { results := [.lit (.bool true)], args := [d1, d2] }
  | _ => none }
def fnExactSameNormalRow : OpenClaim := { program := "ytnnbhgiaaelkiaa", sum := "7ad70c72ba92d4d411038f20c4ea0c366f68231498217a80c9cef0efb9a70ec0", func := "loop.example/g00856/laws.FnExactSameNormal", spec := "fnExactSameNormal", unfollowed := true, recurses := true, apart := false }
def FnExactSameNormalSaid : Prop := fnExactSameNormalRow.holds Try.pinned (OpenSpec.ofChange fnExactSameNormalSpec)

/-- ITS FALSE NEIGHBOUR: 'it returns false'. Refute it at one input. -/
def fnExactSameNormalWrong : ChangeSpec := { name := "fnExactSameNormal", fn := fun _ => fun
  | [d1, d2] => { results := [.lit (.bool false)], args := [d1, d2] }
  | _ => none }
def FnExactSameNormalWrongFalsely : Prop := fnExactSameNormalRow.holds Try.pinned (OpenSpec.ofChange fnExactSameNormalWrong)

/-- 'laws.FnExactValidNormal': WHATEVER THE INPUT: true; the input reads as it did. -/
def fnExactValidNormalSpec : ChangeSpec := { name := "fnExactValidNormal", fn := fun _ => fun
  | [d] => { results := [.lit (.bool true)], args := [d] }
  | _ => none }
def fnExactValidNormalRow : OpenClaim := { program := "ytnnbhgiaaelkiaa", sum := "7ad70c72ba92d4d411038f20c4ea0c366f68231498217a80c9cef0efb9a70ec0", func := "loop.example/g00856/laws.FnExactValidNormal", spec := "fnExactValidNormal", apart := false }
def FnExactValidNormalSaid : Prop := fnExactValidNormalRow.holds Try.pinned (OpenSpec.ofChange fnExactValidNormalSpec)

/-- ITS FALSE NEIGHBOUR: 'it returns false'. Refute it at one input. -/
def fnExactValidNormalWrong : ChangeSpec := { name := "fnExactValidNormal", fn := fun _ => fun
  | [d] => { results := [.lit (.bool false)], args := [d] }
  | _ => none }
def FnExactValidNormalWrongFalsely : Prop := fnExactValidNormalRow.holds Try.pinned (OpenSpec.ofChange fnExactValidNormalWrong)

/-- 'laws.FnExactSplitWords': WHATEVER THE INPUT: true; the input reads as it did. -/
def fnExactSplitWordsSpec : ChangeSpec := { name := "fnExactSplitWords", fn := fun _ => fun
  | [d] => { results := [.lit (.bool true)], args := [d] }
  | _ => none }
def fnExactSplitWordsRow : OpenClaim := { program := "ytnnbhgiaaelkiaa", sum := "7ad70c72ba92d4d411038f20c4ea0c366f68231498217a80c9cef0efb9a70ec0", func := "loop.example/g00856/laws.FnExactSplitWords", spec := "fnExactSplitWords", unfollowed := true, recurses := true, apart := false }
def FnExactSplitWordsSaid : Prop := fnExactSplitWordsRow.holds Try.pinned (OpenSpec.ofChange fnExactSplitWordsSpec)

/-- ITS FALSE NEIGHBOUR: 'it returns false'. Refute it at one input. -/
def fnExactSplitWordsWrong : ChangeSpec := { name := "fnExactSplitWords", fn := fun _ => fun
  | [d] => { results := [.lit (.bool false)], args := [d] }
  | _ => none }
def FnExactSplitWordsWrongFalsely : Prop := fnExactSplitWordsRow.holds Try.pinned (OpenSpec.ofChange fnExactSplitWordsWrong)

/- THE SECOND FORM. 'bulk': how many values and letters a reading holds, each counted each time it is reached (what is shared counts as often as it is met; a slice's spare places count too). A statement '..UptoSaid' is the law's where the arguments, and the package variables that the reading takes, are together of bulk at most 1048576: NARROWER than '..Said'. Prove '..Said' where nothing that the law and all that it calls make is longer than what came in: it says more and counts as full. Else prove '..UptoSaid'. A law counts once. -/
mutual
def uptoBulk {H : Type} : DataW H → Nat
  | .lit (.string bytes) => bytes.length + 1
  | .lit _ => 1
  | .nil => 1
  | .ptr d => uptoBulk d + 1
  | .slice elems spare => uptoBulkAll elems + uptoBulkAll spare + 1
  | .agg parts => uptoBulkAll parts + 1
  | .iface _ d => uptoBulk d + 1
  | .map entries => uptoBulkEntries entries + 1
  | .held _ => 1
def uptoBulkAll {H : Type} : List (DataW H) → Nat
  | [] => 0
  | d :: r => uptoBulk d + uptoBulkAll r
def uptoBulkEntries {H : Type} : List (Lit × DataW H) → Nat
  | [] => 0
  | x :: r => uptoBulkEntry x + uptoBulkEntries r
def uptoBulkEntry {H : Type} : Lit × DataW H → Nat
  | (.string bytes, d) => bytes.length + uptoBulk d + 1
  | (_, d) => uptoBulk d + 1
 end
def uptoSmall : (H : Type) → List (DataW H) → Bool := fun _ ds => decide (uptoBulkAll ds ≤ 1048576)
def OpenSpec.upto (s : _root_.Go.ChangeSpec) : _root_.Go.OpenSpec := { _root_.Go.OpenSpec.ofChange s with cond := some uptoSmall }

/-- 'laws.FnExactComposePermutations', WHERE WHAT IT READS IS OF BULK AT MOST 1048576: true; the input reads as it did. -/
def fnExactComposePermutationsUptoRow : OpenClaim := { program := "ytnnbhgiaaelkiaa", sum := "7ad70c72ba92d4d411038f20c4ea0c366f68231498217a80c9cef0efb9a70ec0", func := "loop.example/g00856/laws.FnExactComposePermutations", spec := "fnExactComposePermutations", apart := false, narrowed := true }
def FnExactComposePermutationsUptoSaid : Prop := fnExactComposePermutationsUptoRow.holds Try.pinned (OpenSpec.upto fnExactComposePermutationsSpec)

/-- 'laws.FnExactJoinPermutations', WHERE WHAT IT READS IS OF BULK AT MOST 1048576: true; the input reads as it did. -/
def fnExactJoinPermutationsUptoRow : OpenClaim := { program := "ytnnbhgiaaelkiaa", sum := "7ad70c72ba92d4d411038f20c4ea0c366f68231498217a80c9cef0efb9a70ec0", func := "loop.example/g00856/laws.FnExactJoinPermutations", spec := "fnExactJoinPermutations", unfollowed := true, recurses := true, apart := false, narrowed := true }
def FnExactJoinPermutationsUptoSaid : Prop := fnExactJoinPermutationsUptoRow.holds Try.pinned (OpenSpec.upto fnExactJoinPermutationsSpec)

/-- 'laws.FnExactMeetPermutations', WHERE WHAT IT READS IS OF BULK AT MOST 1048576: true; the input reads as it did. -/
def fnExactMeetPermutationsUptoRow : OpenClaim := { program := "ytnnbhgiaaelkiaa", sum := "7ad70c72ba92d4d411038f20c4ea0c366f68231498217a80c9cef0efb9a70ec0", func := "loop.example/g00856/laws.FnExactMeetPermutations", spec := "fnExactMeetPermutations", unfollowed := true, recurses := true, apart := false, narrowed := true }
def FnExactMeetPermutationsUptoSaid : Prop := fnExactMeetPermutationsUptoRow.holds Try.pinned (OpenSpec.upto fnExactMeetPermutationsSpec)

/-- 'laws.FnExactHalfTwist', WHERE WHAT IT READS IS OF BULK AT MOST 1048576: true; the input reads as it did. -/
def fnExactHalfTwistUptoRow : OpenClaim := { program := "ytnnbhgiaaelkiaa", sum := "7ad70c72ba92d4d411038f20c4ea0c366f68231498217a80c9cef0efb9a70ec0", func := "loop.example/g00856/laws.FnExactHalfTwist", spec := "fnExactHalfTwist", apart := false, narrowed := true }
def FnExactHalfTwistUptoSaid : Prop := fnExactHalfTwistUptoRow.holds Try.pinned (OpenSpec.upto fnExactHalfTwistSpec)

/-- 'laws.FnExactStartLetters', WHERE WHAT IT READS IS OF BULK AT MOST 1048576: true; the input reads as it did. -/
def fnExactStartLettersUptoRow : OpenClaim := { program := "ytnnbhgiaaelkiaa", sum := "7ad70c72ba92d4d411038f20c4ea0c366f68231498217a80c9cef0efb9a70ec0", func := "loop.example/g00856/laws.FnExactStartLetters", spec := "fnExactStartLetters", apart := false, narrowed := true }
def FnExactStartLettersUptoSaid : Prop := fnExactStartLettersUptoRow.holds Try.pinned (OpenSpec.upto fnExactStartLettersSpec)

/-- 'laws.FnExactFinishLetters', WHERE WHAT IT READS IS OF BULK AT MOST 1048576: true; the input reads as it did. -/
def fnExactFinishLettersUptoRow : OpenClaim := { program := "ytnnbhgiaaelkiaa", sum := "7ad70c72ba92d4d411038f20c4ea0c366f68231498217a80c9cef0efb9a70ec0", func := "loop.example/g00856/laws.FnExactFinishLetters", spec := "fnExactFinishLetters", apart := false, narrowed := true }
def FnExactFinishLettersUptoSaid : Prop := fnExactFinishLettersUptoRow.holds Try.pinned (OpenSpec.upto fnExactFinishLettersSpec)

/-- 'laws.FnExactFlipPermutation', WHERE WHAT IT READS IS OF BULK AT MOST 1048576: true; the input reads as it did. -/
def fnExactFlipPermutationUptoRow : OpenClaim := { program := "ytnnbhgiaaelkiaa", sum := "7ad70c72ba92d4d411038f20c4ea0c366f68231498217a80c9cef0efb9a70ec0", func := "loop.example/g00856/laws.FnExactFlipPermutation", spec := "fnExactFlipPermutation", apart := false, narrowed := true }
def FnExactFlipPermutationUptoSaid : Prop := fnExactFlipPermutationUptoRow.holds Try.pinned (OpenSpec.upto fnExactFlipPermutationSpec)

/-- 'laws.FnExactLeftWeighted', WHERE WHAT IT READS IS OF BULK AT MOST 1048576: true; the input reads as it did. -/
def fnExactLeftWeightedUptoRow : OpenClaim := { program := "ytnnbhgiaaelkiaa", sum := "7ad70c72ba92d4d411038f20c4ea0c366f68231498217a80c9cef0efb9a70ec0", func := "loop.example/g00856/laws.FnExactLeftWeighted", spec := "fnExactLeftWeighted", apart := false, narrowed := true }
def FnExactLeftWeightedUptoSaid : Prop := fnExactLeftWeightedUptoRow.holds Try.pinned (OpenSpec.upto fnExactLeftWeightedSpec)

/-- 'laws.FnExactPermutationBraid', WHERE WHAT IT READS IS OF BULK AT MOST 1048576: true; the input reads as it did. -/
def fnExactPermutationBraidUptoRow : OpenClaim := { program := "ytnnbhgiaaelkiaa", sum := "7ad70c72ba92d4d411038f20c4ea0c366f68231498217a80c9cef0efb9a70ec0", func := "loop.example/g00856/laws.FnExactPermutationBraid", spec := "fnExactPermutationBraid", apart := false, narrowed := true }
def FnExactPermutationBraidUptoSaid : Prop := fnExactPermutationBraidUptoRow.holds Try.pinned (OpenSpec.upto fnExactPermutationBraidSpec)

/-- 'laws.FnExactSameNormal', WHERE WHAT IT READS IS OF BULK AT MOST 1048576: true; the input reads as it did. -/
def fnExactSameNormalUptoRow : OpenClaim := { program := "ytnnbhgiaaelkiaa", sum := "7ad70c72ba92d4d411038f20c4ea0c366f68231498217a80c9cef0efb9a70ec0", func := "loop.example/g00856/laws.FnExactSameNormal", spec := "fnExactSameNormal", unfollowed := true, recurses := true, apart := false, narrowed := true }
def FnExactSameNormalUptoSaid : Prop := fnExactSameNormalUptoRow.holds Try.pinned (OpenSpec.upto fnExactSameNormalSpec)

/-- 'laws.FnExactValidNormal', WHERE WHAT IT READS IS OF BULK AT MOST 1048576: true; the input reads as it did. -/
def fnExactValidNormalUptoRow : OpenClaim := { program := "ytnnbhgiaaelkiaa", sum := "7ad70c72ba92d4d411038f20c4ea0c366f68231498217a80c9cef0efb9a70ec0", func := "loop.example/g00856/laws.FnExactValidNormal", spec := "fnExactValidNormal", apart := false, narrowed := true }
def FnExactValidNormalUptoSaid : Prop := fnExactValidNormalUptoRow.holds Try.pinned (OpenSpec.upto fnExactValidNormalSpec)

/-- 'laws.FnExactSplitWords', WHERE WHAT IT READS IS OF BULK AT MOST 1048576: true; the input reads as it did. -/
def fnExactSplitWordsUptoRow : OpenClaim := { program := "ytnnbhgiaaelkiaa", sum := "7ad70c72ba92d4d411038f20c4ea0c366f68231498217a80c9cef0efb9a70ec0", func := "loop.example/g00856/laws.FnExactSplitWords", spec := "fnExactSplitWords", unfollowed := true, recurses := true, apart := false, narrowed := true }
def FnExactSplitWordsUptoSaid : Prop := fnExactSplitWordsUptoRow.holds Try.pinned (OpenSpec.upto fnExactSplitWordsSpec)

end Rows
end Go.Proofs.Ytnnbhgiaaelkiaa
